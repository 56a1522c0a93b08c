/-
  Texts of this claim, put together: Ho18, Ho19, Ho20, Ho21. What each one says, and under which conditions, stands ahead of it.
-/
import Derived.Test.YtneajcoiemkfbaaGreatTk
import Derived.Test.YtneajcoiemkfbaaGreatCHa
import Derived.Test.YtneajcoiemkfbaaGreatCH
import Derived.Test.YtneajcoiemkfbaaGreatCGb

section
/-
  What a book's set and drop make of its lists. Conditions: at most a million rows; the lists are in order.
-/
namespace Go.Proofs.YtneajcoiemkfbaaGreat
open Go.RowKit Go.Shelf
set_option linter.unusedVariables false
set_option linter.unusedSimpArgs false
namespace Ho
open Kk Pm

set_option maxRecDepth 100000 in
set_option maxHeartbeats 4000000 in
theorem drop2 (x1 x2 x3 x4 x5 x6 : Int) (w : World) :
    Calls Tryz.prog 205 #[.agg #[.int .i64 x1, .int .i64 x2, .int .i64 x3, .int .i64 x4, .int .u64 x5, .int .u64 x6]] w fun e w' => e = .returned (.bool (!full (x1, x2, x3, x4, x5, x6))) ∧ Bel w w' := by
  have B0 := Lib.hid ((Bel.refl w).alloc (.cells #[.int .i64 x1, .int .i64 x2, .int .i64 x3, .int .i64 x4, .int .u64 x5, .int .u64 x6] 90))
  go_enter Tryz.func205, Tryz.ntmps205
  by_cases h5 : x5 = 0
  · by_cases h6 : x6 = 0
    · subst h5 h6
      go_wp2_with fail
      go_ret
      exact ⟨rfl, B0.out⟩
    · subst h5
      go_wp2_with fail
      go_ret
      exact ⟨by simp [full, tok, shr, h6], B0.out⟩
  · go_wp2_with fail
    go_ret
    exact ⟨by simp [full, tok, shr, h5], B0.out⟩
theorem sub4 {w : World} {b q : Nat} {u0 u1 u2 u3 u4 u5 : Value} (h : w.rangeAt b q [u0, u1, u2, u3, u4, u5]) : w.rangeAt b (q + 1) [u1, u2, u3, u4] := fun j v hj => by
  have := h (j + 1) v (by
    match j, hj with
    | 0, hj => exact hj
    | 1, hj => exact hj
    | 2, hj => exact hj
    | 3, hj => exact hj)
  rwa [← Nat.add_assoc, Nat.add_right_comm] at this
theorem info_b : (Tryz.prog.info? 210).map (·.size) = some 2 := by kernel_rfl
theorem kill_ways (T S : Int) : (T = 0 ∧ S = 0 ∧ decide (T = 0 ∧ S = 0) = true) ∨ (¬ T = 0 ∧ decide (T = 0 ∧ S = 0) = false) ∨ (T = 0 ∧ ¬ S = 0 ∧ decide (T = 0 ∧ S = 0) = false) := by
  by_cases h : T = 0
  · by_cases h2 : S = 0
    · exact .inl ⟨h, h2, decide_eq_true ⟨h, h2⟩⟩
    · exact .inr (.inr ⟨h, h2, decide_eq_false (fun h3 => h2 h3.2)⟩)
  · exact .inr (.inl ⟨h, decide_eq_false (fun h3 => h h3.1)⟩)
set_option maxRecDepth 100000 in
set_option maxHeartbeats 4000000 in
theorem drop1 (x1 x2 x3 x4 x5 x6 : Int) (q p : Nat) (A : Option Addr) (n c : Nat) (V2 : Value) (cs : List R6) (w : World) (hV : V2.oneCell' = true) (cq : w.cell? ⟨q, 0, none⟩ = some (.pointer (some ⟨p, 0, none⟩))) (hb : Blk w p #[.slice A n c, V2] 210) (h : RS cC w A n c cs) (hn : n ≤ 1000000000) (hs : Srt ordC cs) :
    Calls Tryz.prog 203 #[.agg #[.int .i64 x1, .int .i64 x2, .int .i64 x3, .int .i64 x4, .int .i64 x5, .int .u64 x6], .pointer (some ⟨q, 0, none⟩)] w fun e w' => e = .returned (.bool (decide (polT cs (x2, x3, x4, x5, 0, 0) = 0 ∧ polS cs (x2, x3, x4, x5, 0, 0) = 0))) ∧ Bel w w' := by
  obtain ⟨W, hW⟩ : ∃ W, w.alloc (.cells #[.int .i64 x1, .int .i64 x2, .int .i64 x3, .int .i64 x4, .int .i64 x5, .int .u64 x6] 93) = W := ⟨_, rfl⟩
  have B0 := Lib.hid (show Bel w W by rw [← hW]; exact (Bel.refl w).alloc _)
  have P0 := Lib.hid (show Blk W w.heap.size #[.int .i64 x1, .int .i64 x2, .int .i64 x3, .int .i64 x4, .int .i64 x5, .int .u64 x6] 93 by rw [← hW]; exact Blk.new _ _ _)
  have PO := Lib.hid (fun V (hv : Bel w V) => poolOf A n c cs V2 hV x2 x3 x4 x5 V (h.bel hv) hn hs)
  have PB := Lib.hid (hb.bel B0.out)
  have CQ := Lib.hid (cell_bel cq B0.out)
  obtain ⟨T, hT⟩ : ∃ T, polT cs (x2, x3, x4, x5, 0, 0) = T := ⟨_, rfl⟩
  obtain ⟨S, hS⟩ : ∃ S, polS cs (x2, x3, x4, x5, 0, 0) = S := ⟨_, rfl⟩
  rw [hT, hS] at PO ⊢
  have hw := kill_ways T S
  obtain ⟨y, hy⟩ : ∃ y, decide (T = 0 ∧ S = 0) = y := ⟨_, rfl⟩
  rw [hy] at hw ⊢
  have HWY := Lib.hid hw
  clear hT hS hy hw cq hb h
  go_enter Tryz.func203, Tryz.ntmps203
  go_upto_region 1 with fail
  try rw [hW]
  obtain ⟨g, hg⟩ : ∃ g, w.heap.size = g := ⟨_, rfl⟩
  rw [hg] at P0 ⊢
  clear hg hW
  refine wp_region_held_drew (S := fun Vx => Bel W Vx) (by kernel_rfl) (Bel.refl _).drew (fun hS0 => ?_)
  obtain ⟨w6, hw6⟩ : ∃ w6, World.drew W = w6 := ⟨_, rfl⟩
  rw [hw6] at hS0 ⊢
  clear hw6
  refine ztk 0 { dst := some 4, op := .load 152 (.tmp 1), type := 152, pos := "book.go:105", after := #[], guard := none } (.pointer (some ⟨p, 0, none⟩)) (Or.inl ⟨by rfl, by intro w h; have hcell := (cell_bel CQ.out h); clear h; go_simp⟩) hS0 ?_
  try simp only [Act.put, zq1, zq2, zq3]
  refine ztk 1 { dst := some 5, op := Op.nilCheck (.tmp 4), type := 0, pos := "book.go:105", after := #[{ on := 0, ground := .data }], guard := none } (.pointer (some ⟨p, 0, none⟩)) (Or.inl ⟨by rfl, by intro w hSw; clear hSw; go_simp⟩) hS0 ?_
  try simp only [Act.put, zq1, zq2, zq3]
  refine ztk 2 { dst := some 6, op := .load 210 (.tmp 5), type := 210, pos := "book.go:105", after := #[{ on := 1, ground := .data }], guard := none } (.agg #[.slice A n c, V2]) (yieldsIf_load_mid (by rfl) _ _ rfl _ _ rfl _ _ (fun w h => rng_bel (rngB (C := [.slice A n c, V2]) PB.out) h) Tryz.underlying210 rfl info_b) hS0 ?_
  try simp only [Act.put, zq1, zq2, zq3]
  refine ztk 3 { dst := some 7, op := .fieldAddr 93 (.tmp 2) 1, type := 0, pos := "book.go:105", after := #[], guard := none } (.pointer (some ⟨g, 1, none⟩)) (Or.inl ⟨by rfl, by intro w hSw; clear hSw; go_simp⟩) hS0 ?_
  try simp only [Act.put, zq1, zq2, zq3]
  refine ztk 4 { dst := some 8, op := .load 37 (.tmp 7), type := 37, pos := "book.go:105", after := #[{ on := 3, ground := .data }], guard := none } (.agg #[.int .i64 x2, .int .i64 x3, .int .i64 x4, .int .i64 x5]) (yieldsIf_load_mid (by rfl) _ _ rfl _ _ rfl _ _ (fun w h => rng_bel (sub4 (rngB (C := [.int .i64 x1, .int .i64 x2, .int .i64 x3, .int .i64 x4, .int .i64 x5, .int .u64 x6]) P0.out)) h) Tryz.underlying37 rfl info_s) hS0 ?_
  try simp only [Act.put, zq1, zq2, zq3]
  refine ztk 6 { dst := some 10, op := .build 46 #[], type := 46, pos := "book.go:105", after := #[], guard := none } (.agg #[.int .u64 0, .int .u64 0]) (Or.inl ⟨by rfl, by intro w hSw; clear hSw; go_simp⟩) hS0 ?_
  try simp only [Act.put, zq1, zq2, zq3]
  refine wpAnyH_ready (rs := [5]) (by kernel_rfl) (by simp) ?_
  refine AllReadyH.cons (o := { dst := some 9, op := .call { callee := .value (.func 76), args := #[.tmp 6, .tmp 8], argTypes := #[25, 37] }, type := 46, pos := "book.go:105", after := #[{ on := 2, ground := .data }, { on := 4, ground := .data }], guard := none }) rfl (fun K hK => ?_) AllReadyH.nil
  go_simp
  refine (PO.out _ (B0.out.trans hS0)).mono ?_
  rintro e v1 ⟨rfl, kb⟩
  go_wp2_with fail
  refine hK.out _ _ (hS0.trans kb) (fun hS1 => ?_)
  clear hK K
  try simp only [Act.put, zq1, zq2, zq3]
  refine ztk 7 { dst := some 11, op := .binOp .eql 46 (.tmp 9) (.tmp 10) 46, type := 4, pos := "book.go:105", after := #[{ on := 5, ground := .data }, { on := 6, ground := .data }], guard := none } (.bool y) (Or.inl ⟨by rfl, by intro w hSw; clear hSw; rcases HWY.out with ⟨h1, h2, h3⟩ | ⟨h1, h3⟩ | ⟨h1, h2, h3⟩ <;> (try subst h1) <;> (try subst h2) <;> subst h3 <;> go_simp⟩) hS1 ?_
  try simp only [Act.put, zq1, zq2, zq3]
  refine ztk 8 { dst := some 3, op := .assign (.tmp 11), type := 4, pos := "book.go:105", after := #[{ on := 7, ground := .data }, { on := 5, ground := .chain }, { on := 0, ground := .phase }, { on := 1, ground := .phase }, { on := 2, ground := .phase }, { on := 3, ground := .phase }, { on := 4, ground := .phase }, { on := 5, ground := .phase }, { on := 6, ground := .phase }, { on := 7, ground := .phase }], guard := none } (.bool y) (Or.inl ⟨by rfl, by intro w hSw; clear hSw; go_simp⟩) hS1 ?_
  try simp only [Act.put, zq1, zq2, zq3]
  refine wpAnyH_done (by kernel_rfl) ?_ _
  have HBB := Lib.hid (B0.out.trans hS1)
  go_wp2_with fail
  go_ret
  exact ⟨rfl, HBB.out⟩
theorem own_blk {k : R6 → List Value} {t : TypeId} {w : World} {base b : Nat} {v : Value} {l : List R6} (h : OwnR k t w base v l) (hb : v.ownBlock = some b) : ∃ C, Blk w b C t := by
  rcases h.2 with ⟨rfl, _⟩ | ⟨g, cap, cur, rfl, _, hg, _⟩
  · cases hb
  · obtain rfl : g = b := Option.some.inj hb
    exact ⟨_, hg⟩
theorem blk_ty {w : World} {b : Nat} {C D : Array Value} {t u : TypeId} (h : Blk w b C t) (h' : Blk w b D u) : t = u := by
  have e := Option.some.inj (Eq.trans (Eq.symm h) h')
  injection e
theorem own_ne {k : R6 → List Value} {t u : TypeId} {w : World} {base b : Nat} {v : Value} {l : List R6} {C : Array Value} (h : OwnR k t w base v l) (hb : Blk w b C u) (hne : t ≠ u) : ¬ v.ownBlock = some b := fun e => by
  obtain ⟨D, hD⟩ := own_blk h e
  exact hne (blk_ty hD hb)
theorem own_ne2 {k k' : R6 → List Value} {t u : TypeId} {w : World} {b b' : Nat} {v v' : Value} {l l' : List R6} (h : OwnR k t w b v l) (h' : OwnR k' u w b' v' l') (hne : t ≠ u) : ∀ i, v.ownBlock = some i → ¬ v'.ownBlock = some i := fun i e e' => by
  obtain ⟨D, hD⟩ := own_blk h' e'
  exact own_ne h hD hne e
theorem OwnR.kep {k : R6 → List Value} {t : TypeId} {w w' : World} {base : Nat} {v : Value} {l : List R6} {S : Nat → Prop} (h : OwnR k t w base v l) (hk : Kep S w w') (hs : ∀ i, v.ownBlock = some i → ¬ S i) : OwnR k t w' base v l := Kep.owns hk hs h
theorem OwnR.one {k : R6 → List Value} {t : TypeId} {w : World} {base : Nat} {v : Value} {l : List R6} (K : C6 k) (h : OwnR k t w base v l) : v.oneCell' = true := by
  obtain ⟨A, c, rfl, _⟩ := h.rs K
  rfl
/-- A book at p: its own two lists. -/
structure BK (w : World) (base p : Nat) (v1 v2 : Value) (cs ps : List R6) : Prop where
  blk : Blk w p #[v1, v2] 210
  oc : OwnR cC 90 w base v1 cs
  op : OwnR cP 93 w base v2 ps
theorem BK.bel {w w' : World} {base p : Nat} {v1 v2 : Value} {cs ps : List R6} (h : BK w base p v1 v2 cs ps) (hb : Bel w w') : BK w' base p v1 v2 cs ps := ⟨h.blk.bel hb, h.oc.bel hb, h.op.bel hb⟩
/-- The list of positions is another now. -/
theorem BK.putP {w w1 : World} {base p : Nat} {v1 v2 v3 : Value} {cs ps qs : List R6} (h : BK w base p v1 v2 cs ps) (ho : OwnR cP 93 w1 base v3 qs) (hk : Kep (fun b => v2.ownBlock = some b) w w1) : BK (w1.setCell ⟨p, 1, none⟩ v3) base p v1 v3 cs qs := by
  have hb := h.blk.kep hk (own_ne h.op h.blk (by decide))
  have hk1 : Kep (fun b => b = p) w1 (w1.setCell ⟨p, 1, none⟩ v3) := Kep.set (S := fun b => b = p) (Kep.refl _ _) rfl _
  refine ⟨by simpa using hb.set 1 v3, ?_, ho.kep hk1 fun i e e' => own_ne ho hb (by decide) (e' ▸ e)⟩
  exact (h.oc.kep hk (own_ne2 h.oc h.op (by decide))).kep hk1 fun i e e' => own_ne h.oc h.blk (by decide) (e' ▸ e)
/-- The list of classes is another now. -/
theorem BK.putC {w w1 : World} {base p : Nat} {v1 v2 v3 : Value} {cs ps qs : List R6} (h : BK w base p v1 v2 cs ps) (ho : OwnR cC 90 w1 base v3 qs) (hk : Kep (fun b => v1.ownBlock = some b) w w1) : BK (w1.setCell ⟨p, 0, none⟩ v3) base p v3 v2 qs ps := by
  have hb := h.blk.kep hk (own_ne h.oc h.blk (by decide))
  have hk1 : Kep (fun b => b = p) w1 (w1.setCell ⟨p, 0, none⟩ v3) := Kep.set (S := fun b => b = p) (Kep.refl _ _) rfl _
  refine ⟨by simpa using hb.set 0 v3, ho.kep hk1 fun i e e' => own_ne ho hb (by decide) (e' ▸ e), ?_⟩
  exact (h.op.kep hk (own_ne2 h.op h.oc (by decide))).kep hk1 fun i e e' => own_ne h.op h.blk (by decide) (e' ▸ e)
set_option maxRecDepth 100000 in
set_option maxHeartbeats 4000000 in
theorem drop_ (base p : Nat) (k1 k2 : Value) (cs ps : List R6) (w : World) (h : BK w base p k1 k2 cs ps) (hn : cs.length ≤ 1000000) (hm : ps.length ≤ 1000000) (hs : Srt ordC cs) :
    Calls Tryz.prog 175 #[.pointer (some ⟨p, 0, none⟩)] w fun e w' => e = .returned (.tuple #[]) ∧ ∃ k1' k2', BK w' base p k1' k2' (cs.filter full) (ps.filter fun r => !decide (polT cs (stp r) = 0 ∧ polS cs (stp r) = 0)) ∧ Kep (fun b => b = p ∨ k1.ownBlock = some b ∨ k2.ownBlock = some b) w w' := by
  obtain ⟨W, hW⟩ : ∃ W, w.alloc (.cells #[.pointer (some ⟨p, 0, none⟩)] 152) = W := ⟨_, rfl⟩
  have B0 := Lib.hid (show Bel w W by rw [← hW]; exact (Bel.refl w).alloc _)
  have Q0 := Lib.hid (show Blk W w.heap.size #[.pointer (some ⟨p, 0, none⟩)] 152 by rw [← hW]; exact Blk.new _ _ _)
  have H := Lib.hid (h.bel B0.out)
  clear h
  go_enter Tryz.func175, Tryz.ntmps175
  go_upto_region 1 with fail
  try rw [hW]
  obtain ⟨q, hq⟩ : ∃ q, w.heap.size = q := ⟨_, rfl⟩
  rw [hq] at Q0 ⊢
  clear hq hW
  refine wp_region_held_drew (S := fun V => Kep (fun b => k2.ownBlock = some b ∨ b = p) W V) (by kernel_rfl) (Kep.drew (Kep.refl _ _)) (fun hS0 => ?_)
  have HD := Lib.hid (show Bel W W.drew from (Bel.refl _).drew)
  obtain ⟨w6, hw6⟩ : ∃ w6, World.drew W = w6 := ⟨_, rfl⟩
  rw [hw6] at hS0 HD ⊢
  clear hw6
  have NQ := Lib.hid (show ¬ (k2.ownBlock = some q ∨ q = p) from fun e => by
    rcases e with e | e
    · exact own_ne H.out.op Q0.out (by decide) e
    · exact absurd (blk_ty (e ▸ Q0.out) H.out.blk) (by decide))
  have H6 := Lib.hid (H.out.bel HD.out)
  have Q6 := Lib.hid (Q0.out.bel HD.out)
  have c1 := H6.out.blk.cell 1 rfl
  have DF := Lib.hid (deleteFuncP (fun r => decide (polT cs (stp r) = 0 ∧ polS cs (stp r) = 0)) 203 #[.pointer (some ⟨q, 0, none⟩)] k2 base ps w6 H6.out.op (by omega) (fun args w => rfl) (fun r V hV => by
    obtain ⟨x1, x2, x3, x4, x5, x6⟩ := r
    have ho := H6.out.oc.kep hV (own_ne2 H6.out.oc H6.out.op (by decide))
    have hblk := H6.out.blk.kep hV (own_ne H6.out.op H6.out.blk (by decide))
    obtain ⟨A, c, rfl, hrs, _, _⟩ := ho.rs c6C
    exact drop1 x1 x2 x3 x4 x5 x6 q p A _ c k2 cs V (H6.out.op.one c6P) ((Q6.out.kep hV (own_ne H6.out.op Q6.out (by decide))).cell 0 rfl) hblk hrs (by omega) hs))
  have DF := Lib.hid (DF.out.mono (R' := fun e V => ∃ A3 n3 c3, e = .returned (.slice A3 n3 c3) ∧ OwnR cP 93 V base (.slice A3 n3 c3) (ps.filter fun r => !decide (polT cs (stp r) = 0 ∧ polS cs (stp r) = 0)) ∧ Kep (fun b => k2.ownBlock = some b) w6 V) (by
    rintro e V ⟨k3, rfl, ho, kb⟩
    obtain ⟨A, c, rfl, _⟩ := ho.rs c6P
    exact ⟨_, _, _, rfl, ho, kb⟩))
  have fz := fun (V : World) (h : Kep (fun b => k2.ownBlock = some b) w6 V) => (H6.out.blk.kep h (own_ne H6.out.op H6.out.blk (by decide))).frozen 1
  refine ztk 0 { dst := some 2, op := .load 152 (.tmp 1), type := 152, pos := "book.go:104", after := #[], guard := none } (.pointer (some ⟨p, 0, none⟩)) (Or.inl ⟨by rfl, by intro w h; have hcell := ((Q0.out.kep h NQ.out).cell 0 rfl); clear h; go_simp⟩) hS0 ?_
  try simp only [Act.put, zq1, zq2, zq3]
  refine ztk 1 { dst := some 3, op := .load 152 (.tmp 1), type := 152, pos := "book.go:104", after := #[], guard := none } (.pointer (some ⟨p, 0, none⟩)) (Or.inl ⟨by rfl, by intro w h; have hcell := ((Q0.out.kep h NQ.out).cell 0 rfl); clear h; go_simp⟩) hS0 ?_
  try simp only [Act.put, zq1, zq2, zq3]
  refine ztk 2 { dst := some 4, op := Op.nilCheck (.tmp 3), type := 0, pos := "book.go:104", after := #[{ on := 1, ground := .data }], guard := none } (.pointer (some ⟨p, 0, none⟩)) (Or.inl ⟨by rfl, by intro w hSw; clear hSw; go_simp⟩) hS0 ?_
  try simp only [Act.put, zq1, zq2, zq3]
  refine ztk 3 { dst := some 5, op := .fieldAddr 210 (.tmp 4) 1, type := 0, pos := "book.go:104", after := #[{ on := 2, ground := .data }], guard := none } (.pointer (some ⟨p, 1, none⟩)) (Or.inl ⟨by rfl, by intro w hSw; clear hSw; go_simp⟩) hS0 ?_
  try simp only [Act.put, zq1, zq2, zq3]
  refine ztk 5 { dst := some 7, op := Op.makeFunc (Fn.func 203) #[] #[.tmp 1], type := 121, pos := "book.go:104", after := #[], guard := none } (.func (.func 203) #[] #[.pointer (some ⟨q, 0, none⟩)]) (Or.inl ⟨by rfl, by intro w hSw; clear hSw; go_simp⟩) hS0 ?_
  try simp only [Act.put, zq1, zq2, zq3]
  refine wpAnyH_ready (rs := [4]) (by kernel_rfl) (by simp) ?_
  refine AllReadyH.cons (o := { dst := some 6, op := .load 23 (.tmp 5), type := 23, pos := "book.go:104", after := #[{ on := 3, ground := .data }], guard := none }) rfl (fun K hK => ?_) AllReadyH.nil
  go_simp
  refine hK.out _ _ (hS0) (fun hS1 => ?_)
  clear hK K
  try simp only [Act.put, zq1, zq2, zq3]
  refine wpAnyH_ready (rs := [6]) (by kernel_rfl) (by simp) ?_
  refine AllReadyH.cons (o := { dst := some 8, op := .call { callee := .value (.func 202), args := #[.tmp 6, .tmp 7], argTypes := #[23, 121] }, type := 23, pos := "book.go:104", after := #[{ on := 4, ground := .data }, { on := 5, ground := .data }], guard := none }) rfl (fun K hK => ?_) AllReadyH.nil
  go_simp
  refine (DF.out).mono ?_
  rintro e v2 ⟨A3, n3, c3, rfl, ho, kb⟩
  go_wp2_with fail
  refine hK.out _ _ (hS1.trans (kb.mono (fun k _ e => Or.inl e))) (fun hS2 => ?_)
  clear hK K
  try simp only [Act.put, zq1, zq2, zq3]
  refine ztk 7 { dst := some 9, op := Op.nilCheck (.tmp 2), type := 0, pos := "book.go:104", after := #[{ on := 0, ground := .data }, { on := 0, ground := .phase }, { on := 1, ground := .phase }, { on := 2, ground := .phase }, { on := 3, ground := .phase }, { on := 4, ground := .phase }, { on := 5, ground := .phase }, { on := 6, ground := .phase }], guard := none } (.pointer (some ⟨p, 0, none⟩)) (Or.inl ⟨by rfl, by intro w hSw; clear hSw; go_simp⟩) hS2 ?_
  try simp only [Act.put, zq1, zq2, zq3]
  refine ztk 8 { dst := some 10, op := .fieldAddr 210 (.tmp 9) 1, type := 0, pos := "book.go:104", after := #[{ on := 7, ground := .data }, { on := 0, ground := .phase }, { on := 1, ground := .phase }, { on := 2, ground := .phase }, { on := 3, ground := .phase }, { on := 4, ground := .phase }, { on := 5, ground := .phase }, { on := 6, ground := .phase }], guard := none } (.pointer (some ⟨p, 1, none⟩)) (Or.inl ⟨by rfl, by intro w hSw; clear hSw; go_simp⟩) hS2 ?_
  try simp only [Act.put, zq1, zq2, zq3]
  refine wpAnyH_ready (rs := [9]) (by kernel_rfl) (by simp) ?_
  refine AllReadyH.cons (o := { dst := none, op := .store 23 (.tmp 10) (.tmp 8), type := 0, pos := "book.go:104", after := #[{ on := 8, ground := .data }, { on := 6, ground := .data }, { on := 6, ground := .chain }, { on := 0, ground := .phase }, { on := 1, ground := .phase }, { on := 2, ground := .phase }, { on := 3, ground := .phase }, { on := 4, ground := .phase }, { on := 5, ground := .phase }, { on := 6, ground := .phase }], guard := none }) rfl (fun K hK => ?_) AllReadyH.nil
  have fz := fz _ kb
  have cz := (H6.out.blk.kep kb (own_ne H6.out.op H6.out.blk (by decide))).cell 1 rfl
  have HN := Lib.hid (H6.out.putP ho kb)
  go_simp
  refine hK.out _ _ (hS2.set (Or.inr rfl) _) (fun hS3 => ?_)
  clear hK K
  try simp only [Act.put, zq1, zq2, zq3]
  refine wpAnyH_done (by kernel_rfl) ?_ _
  have HK1 := Lib.hid hS3
  obtain ⟨X, hX⟩ : ∃ X, v2.setCell ⟨p, 1, none⟩ (.slice A3 n3 c3) = X := ⟨_, rfl⟩
  rw [hX] at HN HK1 ⊢
  have QX := Lib.hid (Q0.out.kep HK1.out NQ.out)
  have NX := Lib.hid (show ¬ (k1.ownBlock = some q ∨ q = p) from fun e => by
    rcases e with e | e
    · exact own_ne HN.out.oc QX.out (by decide) e
    · exact absurd (blk_ty (e ▸ QX.out) HN.out.blk) (by decide))
  clear hX cz fz DF c1 H6 Q6 ho kb hS0 hS1 hS2 hS3
  go_upto_region 2 with fail
  refine wp_region_held_drew (S := fun V => Kep (fun b => k1.ownBlock = some b ∨ b = p) X V) (by kernel_rfl) (Kep.drew (Kep.refl _ _)) (fun hS0 => ?_)
  have HD2 := Lib.hid (show Bel X X.drew from (Bel.refl _).drew)
  obtain ⟨w7, hw7⟩ : ∃ w7, World.drew X = w7 := ⟨_, rfl⟩
  rw [hw7] at hS0 HD2 ⊢
  clear hw7
  have H7 := Lib.hid (HN.out.bel HD2.out)
  have c0 := H7.out.blk.cell 0 rfl
  have DG := Lib.hid ((deleteFuncC (fun r => !full r) 205 #[] k1 base cs w7 H7.out.oc (by omega) (fun args w => rfl) (fun r V hV => by
    obtain ⟨x1, x2, x3, x4, x5, x6⟩ := r
    exact drop2 x1 x2 x3 x4 x5 x6 V)).mono (R' := fun e V => ∃ A4 n4 c4, e = .returned (.slice A4 n4 c4) ∧ OwnR cC 90 V base (.slice A4 n4 c4) (cs.filter full) ∧ Kep (fun b => k1.ownBlock = some b) w7 V) (by
    rintro e V ⟨k3, rfl, ho, kb⟩
    obtain ⟨A, c, rfl, _⟩ := ho.rs c6C
    have e4 : (cs.filter fun r => !!full r) = cs.filter full := by congr 1; funext r; simp
    exact ⟨_, _, _, rfl, e4 ▸ ho, kb⟩))
  have fz := fun (V : World) (h : Kep (fun b => k1.ownBlock = some b) w7 V) => (H7.out.blk.kep h (own_ne H7.out.oc H7.out.blk (by decide))).frozen 0
  refine ztk 0 { dst := some 11, op := .load 152 (.tmp 1), type := 152, pos := "book.go:107", after := #[], guard := none } (.pointer (some ⟨p, 0, none⟩)) (Or.inl ⟨by rfl, by intro w h; have hcell := ((QX.out.kep h NX.out).cell 0 rfl); clear h; go_simp⟩) hS0 ?_
  try simp only [Act.put, zq1, zq2, zq3]
  refine ztk 1 { dst := some 12, op := .load 152 (.tmp 1), type := 152, pos := "book.go:107", after := #[], guard := none } (.pointer (some ⟨p, 0, none⟩)) (Or.inl ⟨by rfl, by intro w h; have hcell := ((QX.out.kep h NX.out).cell 0 rfl); clear h; go_simp⟩) hS0 ?_
  try simp only [Act.put, zq1, zq2, zq3]
  refine ztk 2 { dst := some 13, op := Op.nilCheck (.tmp 12), type := 0, pos := "book.go:107", after := #[{ on := 1, ground := .data }], guard := none } (.pointer (some ⟨p, 0, none⟩)) (Or.inl ⟨by rfl, by intro w hSw; clear hSw; go_simp⟩) hS0 ?_
  try simp only [Act.put, zq1, zq2, zq3]
  refine ztk 3 { dst := some 14, op := .fieldAddr 210 (.tmp 13) 0, type := 0, pos := "book.go:107", after := #[{ on := 2, ground := .data }], guard := none } (.pointer (some ⟨p, 0, none⟩)) (Or.inl ⟨by rfl, by intro w hSw; clear hSw; go_simp⟩) hS0 ?_
  try simp only [Act.put, zq1, zq2, zq3]
  refine wpAnyH_ready (rs := [4]) (by kernel_rfl) (by simp) ?_
  refine AllReadyH.cons (o := { dst := some 15, op := .load 22 (.tmp 14), type := 22, pos := "book.go:107", after := #[{ on := 3, ground := .data }], guard := none }) rfl (fun K hK => ?_) AllReadyH.nil
  go_simp
  refine hK.out _ _ (hS0) (fun hS1 => ?_)
  clear hK K
  try simp only [Act.put, zq1, zq2, zq3]
  refine wpAnyH_ready (rs := [5]) (by kernel_rfl) (by simp) ?_
  refine AllReadyH.cons (o := { dst := some 16, op := .call { callee := .value (.func 204), args := #[.tmp 15, .func 205], argTypes := #[22, 118] }, type := 22, pos := "book.go:107", after := #[{ on := 4, ground := .data }], guard := none }) rfl (fun K hK => ?_) AllReadyH.nil
  go_simp
  refine (DG.out).mono ?_
  rintro e v2 ⟨A4, n4, c4, rfl, ho, kb⟩
  go_wp2_with fail
  refine hK.out _ _ (hS1.trans (kb.mono (fun k _ e => Or.inl e))) (fun hS2 => ?_)
  clear hK K
  try simp only [Act.put, zq1, zq2, zq3]
  refine ztk 6 { dst := some 17, op := Op.nilCheck (.tmp 11), type := 0, pos := "book.go:107", after := #[{ on := 0, ground := .data }, { on := 0, ground := .phase }, { on := 1, ground := .phase }, { on := 2, ground := .phase }, { on := 3, ground := .phase }, { on := 4, ground := .phase }, { on := 5, ground := .phase }], guard := none } (.pointer (some ⟨p, 0, none⟩)) (Or.inl ⟨by rfl, by intro w hSw; clear hSw; go_simp⟩) hS2 ?_
  try simp only [Act.put, zq1, zq2, zq3]
  refine ztk 7 { dst := some 18, op := .fieldAddr 210 (.tmp 17) 0, type := 0, pos := "book.go:107", after := #[{ on := 6, ground := .data }, { on := 0, ground := .phase }, { on := 1, ground := .phase }, { on := 2, ground := .phase }, { on := 3, ground := .phase }, { on := 4, ground := .phase }, { on := 5, ground := .phase }], guard := none } (.pointer (some ⟨p, 0, none⟩)) (Or.inl ⟨by rfl, by intro w hSw; clear hSw; go_simp⟩) hS2 ?_
  try simp only [Act.put, zq1, zq2, zq3]
  refine wpAnyH_ready (rs := [8]) (by kernel_rfl) (by simp) ?_
  refine AllReadyH.cons (o := { dst := none, op := .store 22 (.tmp 18) (.tmp 16), type := 0, pos := "book.go:107", after := #[{ on := 7, ground := .data }, { on := 5, ground := .data }, { on := 5, ground := .chain }, { on := 0, ground := .phase }, { on := 1, ground := .phase }, { on := 2, ground := .phase }, { on := 3, ground := .phase }, { on := 4, ground := .phase }, { on := 5, ground := .phase }], guard := none }) rfl (fun K hK => ?_) AllReadyH.nil
  have fz := fz _ kb
  have cz := (H7.out.blk.kep kb (own_ne H7.out.oc H7.out.blk (by decide))).cell 0 rfl
  have HM := Lib.hid (H7.out.putC ho kb)
  go_simp
  refine hK.out _ _ (hS2.set (Or.inr rfl) _) (fun hS3 => ?_)
  clear hK K
  try simp only [Act.put, zq1, zq2, zq3]
  refine wpAnyH_done (by kernel_rfl) ?_ _
  have HK2 := Lib.hid hS3
  go_wp2_with fail
  go_end0
  refine ⟨rfl, _, _, HM.out, ((Kep.of_bel B0.out).trans (HK1.out.mono (fun k _ e => ?_))).trans (HK2.out.mono (fun k _ e => ?_))⟩
  · rcases e with e | e
    · exact .inr (.inr e)
    · exact .inl e
  · rcases e with e | e
    · exact .inr (.inl e)
    · exact .inl e
end Ho
end Go.Proofs.YtneajcoiemkfbaaGreat
end

section
/-
  What a book's set makes of its lists. Conditions: at most a million rows; the lists are in order; what goes is there.
-/
namespace Go.Proofs.YtneajcoiemkfbaaGreat
open Go.RowKit Go.Shelf
set_option linter.unusedVariables false
set_option linter.unusedSimpArgs false
namespace Ho
open Kk Pm

set_option maxRecDepth 100000 in
set_option maxHeartbeats 4000000 in
theorem set_ (base p : Nat) (k1 k2 : Value) (cs ps : List R6) (o a b d e T S x : Int) (w : World) (h : BK w base p k1 k2 cs ps) (hn : cs.length ≤ 1000000) (hm : ps.length ≤ 1000000) (hsc : Srt ordC cs) (hsp : Srt ordP ps) (hbs : base ≤ w.heap.size)
    (hgc : (!decide (T = 0 ∧ S = 0)) = false → inB ordC cs (a, b, d, e, T, S) = true) (hgp : decide (0 < x) = false → inB ordP ps (o, a, b, d, e, x) = true) :
    Calls Tryz.prog 177 #[.pointer (some ⟨p, 0, none⟩), .int .i64 o, .agg #[.int .i64 a, .int .i64 b, .int .i64 d, .int .i64 e], .agg #[.int .u64 T, .int .u64 S], .int .u64 x] w fun r w' => r = .returned (.tuple #[]) ∧ ∃ k1' k2', BK w' base p k1' k2' (setC cs a b d e T S) (setP ps o a b d e x) ∧ Kep (fun b => b = p ∨ k1.ownBlock = some b ∨ k2.ownBlock = some b) w w' := by
  obtain ⟨W, hW⟩ : ∃ W, (w.alloc (.cells #[.int .i64 a, .int .i64 b, .int .i64 d, .int .i64 e] 37)).alloc (.cells #[.int .u64 T, .int .u64 S] 46) = W := ⟨_, rfl⟩
  have B0 := Lib.hid (show Bel w W by rw [← hW]; exact ((Bel.refl w).alloc _).alloc _)
  have S0 := Lib.hid (show Blk W w.heap.size #[.int .i64 a, .int .i64 b, .int .i64 d, .int .i64 e] 37 by rw [← hW]; exact (Blk.new _ _ _).alloc _)
  have Q0 := Lib.hid (show Blk W (w.heap.size + 1) #[.int .u64 T, .int .u64 S] 46 by rw [← hW]; have h := Blk.new (w.alloc (.cells #[.int .i64 a, .int .i64 b, .int .i64 d, .int .i64 e] 37)) #[.int .u64 T, .int .u64 S] 46; simpa using h)
  have H := Lib.hid (h.bel B0.out)
  have HBS := Lib.hid (show base ≤ W.heap.size from Nat.le_trans hbs B0.out.size)
  have hw := kill_ways T S
  have hy0 : setC cs a b d e T S = put ordC cs (a, b, d, e, T, S) (!decide (T = 0 ∧ S = 0)) := rfl
  obtain ⟨y, hy⟩ : ∃ y, decide (T = 0 ∧ S = 0) = y := ⟨_, rfl⟩
  rw [hy] at hw hy0 hgc
  rw [hy0]
  have HWY := Lib.hid hw
  have HGC := Lib.hid hgc
  have HGP := Lib.hid hgp
  clear h hw hy hy0 hgc hgp hbs
  go_enter Tryz.func177, Tryz.ntmps177
  go_upto_region 1 with fail
  try rw [hW]
  obtain ⟨q, hq⟩ : ∃ q, w.heap.size = q := ⟨_, rfl⟩
  rw [hq] at Q0 S0 ⊢
  clear hq hW
  refine wp_region_held_drew (S := fun V => Kep (fun b => k1.ownBlock = some b ∨ b = p) W V) (by kernel_rfl) (Kep.drew (Kep.refl _ _)) (fun hS0 => ?_)
  have HD := Lib.hid (show Bel W W.drew from (Bel.refl _).drew)
  obtain ⟨w6, hw6⟩ : ∃ w6, World.drew W = w6 := ⟨_, rfl⟩
  rw [hw6] at hS0 HD ⊢
  clear hw6
  have NS := Lib.hid (show ¬ (k1.ownBlock = some q ∨ q = p) from fun e => by
    rcases e with e | e
    · exact own_ne H.out.oc S0.out (by decide) e
    · exact absurd (blk_ty (e ▸ S0.out) H.out.blk) (by decide))
  have NQ := Lib.hid (show ¬ (k1.ownBlock = some (q + 1) ∨ (q + 1) = p) from fun e => by
    rcases e with e | e
    · exact own_ne H.out.oc Q0.out (by decide) e
    · exact absurd (blk_ty (e ▸ Q0.out) H.out.blk) (by decide))
  have H6 := Lib.hid (H.out.bel HD.out)
  have c0 := H6.out.blk.cell 0 rfl
  have PC := Lib.hid ((putC k1 base cs a b d e T S (!y) w6 H6.out.oc hsc hn HGC.out (Nat.le_trans HBS.out HD.out.size)).mono (R' := fun r V => ∃ A3 n3 c3, r = .returned (.slice A3 n3 c3) ∧ OwnR cC 90 V base (.slice A3 n3 c3) (put ordC cs (a, b, d, e, T, S) (!y)) ∧ Kep (fun b => k1.ownBlock = some b) w6 V) (by
    rintro r V ⟨k3, rfl, ho, kb⟩
    obtain ⟨A, c, rfl, _⟩ := ho.rs c6C
    exact ⟨_, _, _, rfl, ho, kb⟩))
  have fz := fun (V : World) (h : Kep (fun b => k1.ownBlock = some b) w6 V) => (H6.out.blk.kep h (own_ne H6.out.oc H6.out.blk (by decide))).frozen 0
  refine ztk 0 { dst := some 10, op := .move (.tmp 0), type := 152, pos := "book.go:85", after := #[], guard := none } (.pointer (some ⟨p, 0, none⟩)) (Or.inl ⟨by rfl, by intro w hSw; clear hSw; go_simp⟩) hS0 ?_
  try simp only [Act.put, zq1, zq2, zq3]
  refine ztk 1 { dst := some 11, op := .move (.tmp 0), type := 152, pos := "book.go:85", after := #[], guard := none } (.pointer (some ⟨p, 0, none⟩)) (Or.inl ⟨by rfl, by intro w hSw; clear hSw; go_simp⟩) hS0 ?_
  try simp only [Act.put, zq1, zq2, zq3]
  refine ztk 2 { dst := some 12, op := Op.nilCheck (.tmp 11), type := 0, pos := "book.go:85", after := #[{ on := 1, ground := .data }], guard := none } (.pointer (some ⟨p, 0, none⟩)) (Or.inl ⟨by rfl, by intro w hSw; clear hSw; go_simp⟩) hS0 ?_
  try simp only [Act.put, zq1, zq2, zq3]
  refine ztk 3 { dst := some 13, op := .fieldAddr 210 (.tmp 12) 0, type := 0, pos := "book.go:85", after := #[{ on := 2, ground := .data }], guard := none } (.pointer (some ⟨p, 0, none⟩)) (Or.inl ⟨by rfl, by intro w hSw; clear hSw; go_simp⟩) hS0 ?_
  try simp only [Act.put, zq1, zq2, zq3]
  refine ztk 5 { dst := some 15, op := .load 37 (.tmp 7), type := 37, pos := "book.go:85", after := #[], guard := none } (.agg #[.int .i64 a, .int .i64 b, .int .i64 d, .int .i64 e]) (yieldsIf_load_mid (by rfl) _ _ rfl _ _ rfl _ _ (fun w h => rngB (C := [.int .i64 a, .int .i64 b, .int .i64 d, .int .i64 e]) (S0.out.kep h NS.out)) Tryz.underlying37 rfl info_s) hS0 ?_
  try simp only [Act.put, zq1, zq2, zq3]
  refine ztk 6 { dst := some 16, op := .load 46 (.tmp 8), type := 46, pos := "book.go:85", after := #[], guard := none } (.agg #[.int .u64 T, .int .u64 S]) (yieldsIf_load_mid (by rfl) _ _ rfl _ _ rfl _ _ (fun w h => rngB (C := [.int .u64 T, .int .u64 S]) (Q0.out.kep h NQ.out)) Tryz.underlying46 rfl info_q) hS0 ?_
  try simp only [Act.put, zq1, zq2, zq3]
  refine ztk 7 { dst := some 17, op := .build 90 #[(0, .tmp 15), (1, .tmp 16)], type := 90, pos := "book.go:85", after := #[{ on := 5, ground := .data }, { on := 6, ground := .data }], guard := none } (.agg #[.int .i64 a, .int .i64 b, .int .i64 d, .int .i64 e, .int .u64 T, .int .u64 S]) (Or.inl ⟨by rfl, by intro w hSw; clear hSw; go_simp⟩) hS0 ?_
  try simp only [Act.put, zq1, zq2, zq3]
  refine ztk 8 { dst := some 18, op := .load 46 (.tmp 8), type := 46, pos := "book.go:85", after := #[], guard := none } (.agg #[.int .u64 T, .int .u64 S]) (yieldsIf_load_mid (by rfl) _ _ rfl _ _ rfl _ _ (fun w h => rngB (C := [.int .u64 T, .int .u64 S]) (Q0.out.kep h NQ.out)) Tryz.underlying46 rfl info_q) hS0 ?_
  try simp only [Act.put, zq1, zq2, zq3]
  refine ztk 9 { dst := some 19, op := .build 46 #[], type := 46, pos := "book.go:85", after := #[], guard := none } (.agg #[.int .u64 0, .int .u64 0]) (Or.inl ⟨by rfl, by intro w hSw; clear hSw; go_simp⟩) hS0 ?_
  try simp only [Act.put, zq1, zq2, zq3]
  refine ztk 10 { dst := some 20, op := .binOp .neq 46 (.tmp 18) (.tmp 19) 46, type := 4, pos := "book.go:85", after := #[{ on := 8, ground := .data }, { on := 9, ground := .data }], guard := none } (.bool (!y)) (Or.inl ⟨by rfl, by intro w hSw; clear hSw; rcases HWY.out with ⟨h1, h2, h3⟩ | ⟨h1, h3⟩ | ⟨h1, h2, h3⟩ <;> (try subst h1) <;> (try subst h2) <;> subst h3 <;> go_simp⟩) hS0 ?_
  try simp only [Act.put, zq1, zq2, zq3]
  refine wpAnyH_ready (rs := [4]) (by kernel_rfl) (by simp) ?_
  refine AllReadyH.cons (o := { dst := some 14, op := .load 22 (.tmp 13), type := 22, pos := "book.go:85", after := #[{ on := 3, ground := .data }], guard := none }) rfl (fun K hK => ?_) AllReadyH.nil
  go_simp
  refine hK.out _ _ (hS0) (fun hS1 => ?_)
  clear hK K
  try simp only [Act.put, zq1, zq2, zq3]
  refine wpAnyH_ready (rs := [11]) (by kernel_rfl) (by simp) ?_
  refine AllReadyH.cons (o := { dst := some 21, op := .call { callee := .value (.func 207), args := #[.tmp 14, .tmp 17, .func 130, .tmp 20], argTypes := #[22, 90, 218, 4] }, type := 22, pos := "book.go:85", after := #[{ on := 4, ground := .data }, { on := 7, ground := .data }, { on := 10, ground := .data }], guard := none }) rfl (fun K hK => ?_) AllReadyH.nil
  go_simp
  refine (PC.out).mono ?_
  rintro e v2 ⟨A3, n3, c3, rfl, ho, kb⟩
  go_wp2_with fail
  refine hK.out _ _ (hS1.trans (kb.mono (fun k _ e => Or.inl e))) (fun hS2 => ?_)
  clear hK K
  try simp only [Act.put, zq1, zq2, zq3]
  refine ztk 12 { dst := some 22, op := Op.nilCheck (.tmp 10), type := 0, pos := "book.go:85", after := #[{ on := 0, ground := .data }, { on := 0, ground := .phase }, { on := 1, ground := .phase }, { on := 2, ground := .phase }, { on := 3, ground := .phase }, { on := 4, ground := .phase }, { on := 5, ground := .phase }, { on := 6, ground := .phase }, { on := 7, ground := .phase }, { on := 8, ground := .phase }, { on := 9, ground := .phase }, { on := 10, ground := .phase }, { on := 11, ground := .phase }], guard := none } (.pointer (some ⟨p, 0, none⟩)) (Or.inl ⟨by rfl, by intro w hSw; clear hSw; go_simp⟩) hS2 ?_
  try simp only [Act.put, zq1, zq2, zq3]
  refine ztk 13 { dst := some 23, op := .fieldAddr 210 (.tmp 22) 0, type := 0, pos := "book.go:85", after := #[{ on := 12, ground := .data }, { on := 0, ground := .phase }, { on := 1, ground := .phase }, { on := 2, ground := .phase }, { on := 3, ground := .phase }, { on := 4, ground := .phase }, { on := 5, ground := .phase }, { on := 6, ground := .phase }, { on := 7, ground := .phase }, { on := 8, ground := .phase }, { on := 9, ground := .phase }, { on := 10, ground := .phase }, { on := 11, ground := .phase }], guard := none } (.pointer (some ⟨p, 0, none⟩)) (Or.inl ⟨by rfl, by intro w hSw; clear hSw; go_simp⟩) hS2 ?_
  try simp only [Act.put, zq1, zq2, zq3]
  refine wpAnyH_ready (rs := [14]) (by kernel_rfl) (by simp) ?_
  refine AllReadyH.cons (o := { dst := none, op := .store 22 (.tmp 23) (.tmp 21), type := 0, pos := "book.go:85", after := #[{ on := 13, ground := .data }, { on := 11, ground := .data }, { on := 11, ground := .chain }, { on := 0, ground := .phase }, { on := 1, ground := .phase }, { on := 2, ground := .phase }, { on := 3, ground := .phase }, { on := 4, ground := .phase }, { on := 5, ground := .phase }, { on := 6, ground := .phase }, { on := 7, ground := .phase }, { on := 8, ground := .phase }, { on := 9, ground := .phase }, { on := 10, ground := .phase }, { on := 11, ground := .phase }], guard := none }) rfl (fun K hK => ?_) AllReadyH.nil
  have fz := fz _ kb
  have cz := (H6.out.blk.kep kb (own_ne H6.out.oc H6.out.blk (by decide))).cell 0 rfl
  have HN := Lib.hid (H6.out.putC ho kb)
  go_simp
  refine hK.out _ _ (hS2.set (Or.inr rfl) _) (fun hS3 => ?_)
  clear hK K
  try simp only [Act.put, zq1, zq2, zq3]
  refine wpAnyH_done (by kernel_rfl) ?_ _
  have HK1 := Lib.hid hS3
  obtain ⟨X, hX⟩ : ∃ X, v2.setCell ⟨p, 0, none⟩ (.slice A3 n3 c3) = X := ⟨_, rfl⟩
  rw [hX] at HN HK1 ⊢
  have SX := Lib.hid (S0.out.kep HK1.out NS.out)
  have NX := Lib.hid (show ¬ (k2.ownBlock = some q ∨ q = p) from fun e => by
    rcases e with e | e
    · exact own_ne HN.out.op SX.out (by decide) e
    · exact absurd (blk_ty (e ▸ SX.out) HN.out.blk) (by decide))
  clear hX cz fz PC c0 H6 ho kb hS0 hS1 hS2 hS3
  go_upto_region 2 with fail
  refine wp_region_held_drew (S := fun V => Kep (fun b => k2.ownBlock = some b ∨ b = p) X V) (by kernel_rfl) (Kep.drew (Kep.refl _ _)) (fun hS0 => ?_)
  have HD2 := Lib.hid (show Bel X X.drew from (Bel.refl _).drew)
  obtain ⟨w7, hw7⟩ : ∃ w7, World.drew X = w7 := ⟨_, rfl⟩
  rw [hw7] at hS0 HD2 ⊢
  clear hw7
  have H7 := Lib.hid (HN.out.bel HD2.out)
  have c1 := H7.out.blk.cell 1 rfl
  have PP := Lib.hid ((putP k2 base ps o a b d e x (decide (0 < x)) w7 H7.out.op hsp hm HGP.out (Nat.le_trans HBS.out (Nat.le_trans HK1.out.size HD2.out.size))).mono (R' := fun r V => ∃ A4 n4 c4, r = .returned (.slice A4 n4 c4) ∧ OwnR cP 93 V base (.slice A4 n4 c4) (setP ps o a b d e x) ∧ Kep (fun b => k2.ownBlock = some b) w7 V) (by
    rintro r V ⟨k3, rfl, ho, kb⟩
    obtain ⟨A, c, rfl, _⟩ := ho.rs c6P
    exact ⟨_, _, _, rfl, ho, kb⟩))
  have fz := fun (V : World) (h : Kep (fun b => k2.ownBlock = some b) w7 V) => (H7.out.blk.kep h (own_ne H7.out.op H7.out.blk (by decide))).frozen 1
  refine ztk 0 { dst := some 24, op := .move (.tmp 0), type := 152, pos := "book.go:86", after := #[], guard := none } (.pointer (some ⟨p, 0, none⟩)) (Or.inl ⟨by rfl, by intro w hSw; clear hSw; go_simp⟩) hS0 ?_
  try simp only [Act.put, zq1, zq2, zq3]
  refine ztk 1 { dst := some 25, op := .move (.tmp 0), type := 152, pos := "book.go:86", after := #[], guard := none } (.pointer (some ⟨p, 0, none⟩)) (Or.inl ⟨by rfl, by intro w hSw; clear hSw; go_simp⟩) hS0 ?_
  try simp only [Act.put, zq1, zq2, zq3]
  refine ztk 2 { dst := some 26, op := Op.nilCheck (.tmp 25), type := 0, pos := "book.go:86", after := #[{ on := 1, ground := .data }], guard := none } (.pointer (some ⟨p, 0, none⟩)) (Or.inl ⟨by rfl, by intro w hSw; clear hSw; go_simp⟩) hS0 ?_
  try simp only [Act.put, zq1, zq2, zq3]
  refine ztk 3 { dst := some 27, op := .fieldAddr 210 (.tmp 26) 1, type := 0, pos := "book.go:86", after := #[{ on := 2, ground := .data }], guard := none } (.pointer (some ⟨p, 1, none⟩)) (Or.inl ⟨by rfl, by intro w hSw; clear hSw; go_simp⟩) hS0 ?_
  try simp only [Act.put, zq1, zq2, zq3]
  refine ztk 5 { dst := some 29, op := .move (.tmp 1), type := 3, pos := "book.go:86", after := #[], guard := none } (.int .i64 o) (Or.inl ⟨by rfl, by intro w hSw; clear hSw; go_simp⟩) hS0 ?_
  try simp only [Act.put, zq1, zq2, zq3]
  refine ztk 6 { dst := some 30, op := .load 37 (.tmp 7), type := 37, pos := "book.go:86", after := #[], guard := none } (.agg #[.int .i64 a, .int .i64 b, .int .i64 d, .int .i64 e]) (yieldsIf_load_mid (by rfl) _ _ rfl _ _ rfl _ _ (fun w h => rngB (C := [.int .i64 a, .int .i64 b, .int .i64 d, .int .i64 e]) (SX.out.kep h NX.out)) Tryz.underlying37 rfl info_s) hS0 ?_
  try simp only [Act.put, zq1, zq2, zq3]
  refine ztk 7 { dst := some 31, op := .move (.tmp 4), type := 32, pos := "book.go:86", after := #[], guard := none } (.int .u64 x) (Or.inl ⟨by rfl, by intro w hSw; clear hSw; go_simp⟩) hS0 ?_
  try simp only [Act.put, zq1, zq2, zq3]
  refine ztk 8 { dst := some 32, op := .build 93 #[(0, .tmp 29), (1, .tmp 30), (2, .tmp 31)], type := 93, pos := "book.go:86", after := #[{ on := 5, ground := .data }, { on := 6, ground := .data }, { on := 7, ground := .data }], guard := none } (.agg #[.int .i64 o, .int .i64 a, .int .i64 b, .int .i64 d, .int .i64 e, .int .u64 x]) (Or.inl ⟨by rfl, by intro w hSw; clear hSw; go_simp⟩) hS0 ?_
  try simp only [Act.put, zq1, zq2, zq3]
  refine ztk 9 { dst := some 33, op := .move (.tmp 4), type := 32, pos := "book.go:86", after := #[], guard := none } (.int .u64 x) (Or.inl ⟨by rfl, by intro w hSw; clear hSw; go_simp⟩) hS0 ?_
  try simp only [Act.put, zq1, zq2, zq3]
  refine ztk 10 { dst := some 34, op := .binOp .gtr 32 (.tmp 33) (.const (Value.int IntKind.u64 0)) 32, type := 4, pos := "book.go:86", after := #[{ on := 9, ground := .data }], guard := none } (.bool (decide (0 < x))) (Or.inl ⟨by rfl, by intro w hSw; clear hSw; go_simp⟩) hS0 ?_
  try simp only [Act.put, zq1, zq2, zq3]
  refine wpAnyH_ready (rs := [4]) (by kernel_rfl) (by simp) ?_
  refine AllReadyH.cons (o := { dst := some 28, op := .load 23 (.tmp 27), type := 23, pos := "book.go:86", after := #[{ on := 3, ground := .data }], guard := none }) rfl (fun K hK => ?_) AllReadyH.nil
  go_simp
  refine hK.out _ _ (hS0) (fun hS1 => ?_)
  clear hK K
  try simp only [Act.put, zq1, zq2, zq3]
  refine wpAnyH_ready (rs := [11]) (by kernel_rfl) (by simp) ?_
  refine AllReadyH.cons (o := { dst := some 35, op := .call { callee := .value (.func 208), args := #[.tmp 28, .tmp 32, .func 134, .tmp 34], argTypes := #[23, 93, 219, 4] }, type := 23, pos := "book.go:86", after := #[{ on := 4, ground := .data }, { on := 8, ground := .data }, { on := 10, ground := .data }], guard := none }) rfl (fun K hK => ?_) AllReadyH.nil
  go_simp
  refine (PP.out).mono ?_
  rintro e v2 ⟨A4, n4, c4, rfl, ho, kb⟩
  go_wp2_with fail
  refine hK.out _ _ (hS1.trans (kb.mono (fun k _ e => Or.inl e))) (fun hS2 => ?_)
  clear hK K
  try simp only [Act.put, zq1, zq2, zq3]
  refine ztk 12 { dst := some 36, op := Op.nilCheck (.tmp 24), type := 0, pos := "book.go:86", after := #[{ on := 0, ground := .data }, { on := 0, ground := .phase }, { on := 1, ground := .phase }, { on := 2, ground := .phase }, { on := 3, ground := .phase }, { on := 4, ground := .phase }, { on := 5, ground := .phase }, { on := 6, ground := .phase }, { on := 7, ground := .phase }, { on := 8, ground := .phase }, { on := 9, ground := .phase }, { on := 10, ground := .phase }, { on := 11, ground := .phase }], guard := none } (.pointer (some ⟨p, 0, none⟩)) (Or.inl ⟨by rfl, by intro w hSw; clear hSw; go_simp⟩) hS2 ?_
  try simp only [Act.put, zq1, zq2, zq3]
  refine ztk 13 { dst := some 37, op := .fieldAddr 210 (.tmp 36) 1, type := 0, pos := "book.go:86", after := #[{ on := 12, ground := .data }, { on := 0, ground := .phase }, { on := 1, ground := .phase }, { on := 2, ground := .phase }, { on := 3, ground := .phase }, { on := 4, ground := .phase }, { on := 5, ground := .phase }, { on := 6, ground := .phase }, { on := 7, ground := .phase }, { on := 8, ground := .phase }, { on := 9, ground := .phase }, { on := 10, ground := .phase }, { on := 11, ground := .phase }], guard := none } (.pointer (some ⟨p, 1, none⟩)) (Or.inl ⟨by rfl, by intro w hSw; clear hSw; go_simp⟩) hS2 ?_
  try simp only [Act.put, zq1, zq2, zq3]
  refine wpAnyH_ready (rs := [14]) (by kernel_rfl) (by simp) ?_
  refine AllReadyH.cons (o := { dst := none, op := .store 23 (.tmp 37) (.tmp 35), type := 0, pos := "book.go:86", after := #[{ on := 13, ground := .data }, { on := 11, ground := .data }, { on := 11, ground := .chain }, { on := 0, ground := .phase }, { on := 1, ground := .phase }, { on := 2, ground := .phase }, { on := 3, ground := .phase }, { on := 4, ground := .phase }, { on := 5, ground := .phase }, { on := 6, ground := .phase }, { on := 7, ground := .phase }, { on := 8, ground := .phase }, { on := 9, ground := .phase }, { on := 10, ground := .phase }, { on := 11, ground := .phase }], guard := none }) rfl (fun K hK => ?_) AllReadyH.nil
  have fz := fz _ kb
  have cz := (H7.out.blk.kep kb (own_ne H7.out.op H7.out.blk (by decide))).cell 1 rfl
  have HM := Lib.hid (H7.out.putP ho kb)
  go_simp
  refine hK.out _ _ (hS2.set (Or.inr rfl) _) (fun hS3 => ?_)
  clear hK K
  try simp only [Act.put, zq1, zq2, zq3]
  refine wpAnyH_done (by kernel_rfl) ?_ _
  have HK2 := Lib.hid hS3
  go_wp2_with fail
  go_end0
  refine ⟨rfl, _, _, HM.out, ((Kep.of_bel B0.out).trans (HK1.out.mono (fun k _ e => ?_))).trans (HK2.out.mono (fun k _ e => ?_))⟩
  · rcases e with e | e
    · exact .inr (.inl e)
    · exact .inl e
  · rcases e with e | e
    · exact .inr (.inr e)
    · exact .inl e
end Ho
end Go.Proofs.YtneajcoiemkfbaaGreat
end

section
/-
  What a book's leave tells and makes. Conditions: the book is a valid holding of at most a million rows; amounts are words.
-/
namespace Go.Proofs.YtneajcoiemkfbaaGreat
open Go.RowKit Go.Shelf
set_option linter.unusedVariables false
set_option linter.unusedSimpArgs false
namespace Ho
open Kk Pm

theorem get_tailC (a b d e T S : Int) : ∀ l : List R6, get ordC l (a, b, d, e, T, S) = get ordC l (a, b, d, e, 0, 0)
  | [] => rfl
  | (y1, y2, y3, y4, y5, y6) :: l => by
    rw [get_cons, get_cons, get_tailC a b d e T S l]; rfl
theorem get_tailP (o a b d e x : Int) : ∀ l : List R6, get ordP l (o, a, b, d, e, x) = get ordP l (o, a, b, d, e, 0)
  | [] => rfl
  | (y1, y2, y3, y4, y5, y6) :: l => by
    rw [get_cons, get_cons, get_tailP o a b d e x l]; rfl
theorem pol_words {cs : List R6} (h : ∀ r ∈ cs, Wd r) (s : R6) : 0 ≤ polT cs s ∧ polT cs s ≤ 18446744073709551615 ∧ 0 ≤ polS cs s ∧ polS cs s ≤ 18446744073709551615 := by
  unfold polT polS
  cases hg : get ordC cs s with
  | none => simp
  | some r => exact h r (get_key hg).2
theorem shs_words {ps : List R6} (h : Wp ps) (s : R6) : 0 ≤ shs ps s ∧ shs ps s ≤ 18446744073709551615 := by
  unfold shs
  cases hg : get ordP ps s with
  | none => simp
  | some r => exact h r (get_key hg).2
theorem shs_in {cs ps : List R6} (hok : Ok cs ps) {o a b d e : Int} (hs : shs ps (o, a, b, d, e, 0) ≠ 0) (x T S : Int) : inB ordP ps (o, a, b, d, e, x) = true ∧ inB ordC cs (a, b, d, e, T, S) = true := by
  unfold shs at hs
  cases hg : get ordP ps (o, a, b, d, e, 0) with
  | none => rw [hg] at hs; exact absurd rfl hs
  | some r =>
    refine ⟨by unfold inB; rw [get_tailP, hg]; rfl, ?_⟩
    obtain ⟨h0, hm⟩ := get_key hg
    have h4 := (hok.po r hm).2.2.2
    obtain ⟨r1, r2, r3, r4, r5, r6⟩ := r
    obtain ⟨e1, e2, e3, e4, e5⟩ := same_p h0
    subst e2 e3 e4 e5
    unfold inB
    rw [get_tailC]
    cases hc : get ordC cs (r2, r3, r4, r5, 0, 0) with
    | none => exact absurd hc h4
    | some _ => rfl
/-- What leave tells. -/
def bLE (T S s x : Int) : Int := Sh.fE [if s = 0 then 10 else 0, if s < x then 13 else 0, Sh.leaE T S x]
theorem bLE_ways (T S s x : Int) : (s = 0 → bLE T S s x = 10) ∧ (¬ s = 0 → s < x → bLE T S s x = 13) ∧ (¬ s = 0 → ¬ s < x → bLE T S s x = Sh.leaE T S x) := by
  unfold bLE
  refine ⟨fun h => ?_, fun h h2 => ?_, fun h h2 => ?_⟩
  · rw [if_pos h, fE_no (by decide)]
  · rw [if_neg h, if_pos h2, fE_go, fE_no (by decide)]
  · rw [if_neg h, if_neg h2, fE_go, fE_go]
    by_cases h3 : Sh.leaE T S x = 0
    · rw [h3]; rfl
    · rw [fE_no h3]
set_option maxRecDepth 100000 in
set_option maxHeartbeats 8000000 in
theorem leave_ (base p : Nat) (k1 k2 : Value) (cs ps : List R6) (o a b d e x : Int) (w : World) (h : BK w base p k1 k2 cs ps) (hok : Ok cs ps) (hm : ps.length ≤ 1000000) (hwc : ∀ r ∈ cs, Wd r) (hwp : Wp ps) (x0 : 0 ≤ x) (x1 : x ≤ 18446744073709551615) (hbs : base ≤ w.heap.size) :
    Calls Tryz.prog 120 #[.pointer (some ⟨p, 0, none⟩), .int .i64 o, .agg #[.int .i64 a, .int .i64 b, .int .i64 d, .int .i64 e], .int .u64 x] w fun r w' =>
      r = .returned (.tuple #[.int .u64 (if bLE (polT cs (a, b, d, e, 0, 0)) (polS cs (a, b, d, e, 0, 0)) (shs ps (o, a, b, d, e, 0)) x = 0 then Sh.leaN (polT cs (a, b, d, e, 0, 0)) (polS cs (a, b, d, e, 0, 0)) x else 0), .int .i64 (bLE (polT cs (a, b, d, e, 0, 0)) (polS cs (a, b, d, e, 0, 0)) (shs ps (o, a, b, d, e, 0)) x)]) ∧
      Kep (fun b => b = p ∨ k1.ownBlock = some b ∨ k2.ownBlock = some b) w w' ∧
      (bLE (polT cs (a, b, d, e, 0, 0)) (polS cs (a, b, d, e, 0, 0)) (shs ps (o, a, b, d, e, 0)) x = 0 → ∃ k1' k2', BK w' base p k1' k2' (setC cs a b d e (Sh.leaT (polT cs (a, b, d, e, 0, 0)) (polS cs (a, b, d, e, 0, 0)) x) (Sh.leaS (polT cs (a, b, d, e, 0, 0)) (polS cs (a, b, d, e, 0, 0)) x)) (setP ps o a b d e (shs ps (o, a, b, d, e, 0) - x))) := by
  have hn : cs.length ≤ 1000000 := Nat.le_trans hok.len (by decide)
  have hin := fun hs y T S => shs_in (o := o) (a := a) (b := b) (d := d) (e := e) hok hs y T S
  obtain ⟨t0, t1, s0, s1⟩ := pol_words hwc (a, b, d, e, 0, 0)
  obtain ⟨u0, u1⟩ := shs_words hwp (o, a, b, d, e, 0)
  obtain ⟨W, hW⟩ : ∃ W, w.alloc (.cells #[.int .i64 a, .int .i64 b, .int .i64 d, .int .i64 e] 37) = W := ⟨_, rfl⟩
  have B0 := Lib.hid (show Bel w W by rw [← hW]; exact (Bel.refl w).alloc _)
  have S0 := Lib.hid (show Blk W w.heap.size #[.int .i64 a, .int .i64 b, .int .i64 d, .int .i64 e] 37 by rw [← hW]; exact Blk.new _ _ _)
  have H := Lib.hid (h.bel B0.out)
  obtain ⟨A1, c1, rfl, hr1, _, _⟩ := h.oc.rs c6C
  obtain ⟨A2, c2, rfl, hr2, _, _⟩ := h.op.rs c6P
  have SO := Lib.hid (fun V (hv : Bel w V) => sharesOf A2 _ c2 ps (.slice A1 cs.length c1) rfl o a b d e V (hr2.bel hv) (by omega) hok.sp)
  have PO := Lib.hid (fun V (hv : Bel w V) => poolOf A1 _ c1 cs (.slice A2 ps.length c2) rfl a b d e V (hr1.bel hv) (by omega) hok.sc)
  obtain ⟨T, hT⟩ : ∃ T, polT cs (a, b, d, e, 0, 0) = T := ⟨_, rfl⟩
  obtain ⟨S, hS⟩ : ∃ S, polS cs (a, b, d, e, 0, 0) = S := ⟨_, rfl⟩
  obtain ⟨s, hs⟩ : ∃ s, shs ps (o, a, b, d, e, 0) = s := ⟨_, rfl⟩
  rw [hT] at t0 t1
  rw [hS] at s0 s1
  rw [hs] at u0 u1 hin
  rw [hs] at SO
  rw [hT, hS] at PO
  rw [hT, hS, hs]
  have LV := Lib.hid (fun V => Sh.leaveX T S x V t0 t1 s0 s1 x0 x1)
  have ST := Lib.hid (fun V (hv : BK V base p (.slice A1 cs.length c1) (.slice A2 ps.length c2) cs ps) (hsn : ¬ s = 0) (hb : base ≤ V.heap.size) T' S' y => set_ base p _ _ cs ps o a b d e T' S' y V hv hn hm hok.sc hok.sp hb (fun _ => (hin hsn 0 T' S').2) (fun _ => (hin hsn y 0 0).1))
  obtain ⟨n1, hn1⟩ : ∃ n, cs.length = n := ⟨_, rfl⟩
  obtain ⟨n2, hn2⟩ : ∃ n, ps.length = n := ⟨_, rfl⟩
  rw [hn1, hn2] at H SO PO ST ⊢
  obtain ⟨E, hE⟩ : ∃ E, bLE T S s x = E := ⟨_, rfl⟩
  have hw := bLE_ways T S s x
  rw [hE] at hw ⊢
  obtain ⟨T2, hT2⟩ : ∃ A, Sh.leaT T S x = A := ⟨_, rfl⟩
  obtain ⟨S2, hS2⟩ : ∃ A, Sh.leaS T S x = A := ⟨_, rfl⟩
  obtain ⟨N2, hN2⟩ : ∃ A, Sh.leaN T S x = A := ⟨_, rfl⟩
  obtain ⟨E2, hE2⟩ : ∃ A, Sh.leaE T S x = A := ⟨_, rfl⟩
  rw [hE2] at hw
  rw [hT2, hS2, hN2, hE2] at LV
  rw [hT2, hS2, hN2]
  have HWY := Lib.hid hw
  have HBS := Lib.hid (show base ≤ W.heap.size from Nat.le_trans hbs B0.out.size)
  clear hw hE hT2 hS2 hN2 hE2 hn1 hn2 hT hS hs hr1 hr2 h hin hok hwc hwp hn hm t0 t1 s0 s1 hbs
  go_enter Tryz.func120, Tryz.ntmps120
  go_upto_region 1 with fail
  try rw [hW]
  obtain ⟨q, hq⟩ : ∃ q, w.heap.size = q := ⟨_, rfl⟩
  rw [hq] at S0 ⊢
  clear hq hW
  refine wp_region_held_drew (S := fun Vx => Bel W Vx) (by kernel_rfl) (Bel.refl _).drew (fun hS0 => ?_)
  obtain ⟨w6, hw6⟩ : ∃ w6, World.drew W = w6 := ⟨_, rfl⟩
  rw [hw6] at hS0 ⊢
  clear hw6
  refine ztk 0 { dst := some 14, op := .move (.tmp 0), type := 152, pos := "book.go:48", after := #[], guard := none } (.pointer (some ⟨p, 0, none⟩)) (Or.inl ⟨by rfl, by intro w hSw; clear hSw; go_simp⟩) hS0 ?_
  try simp only [Act.put, zq1, zq2, zq3]
  refine ztk 1 { dst := some 15, op := Op.nilCheck (.tmp 14), type := 0, pos := "book.go:48", after := #[{ on := 0, ground := .data }], guard := none } (.pointer (some ⟨p, 0, none⟩)) (Or.inl ⟨by rfl, by intro w hSw; clear hSw; go_simp⟩) hS0 ?_
  try simp only [Act.put, zq1, zq2, zq3]
  refine ztk 2 { dst := some 16, op := .load 210 (.tmp 15), type := 210, pos := "book.go:48", after := #[{ on := 1, ground := .data }], guard := none } (.agg #[.slice A1 n1 c1, .slice A2 n2 c2]) (yieldsIf_load_mid (by rfl) _ _ rfl _ _ rfl _ _ (fun w h => rng_bel (rngB (C := [.slice A1 n1 c1, .slice A2 n2 c2]) H.out.blk) h) Tryz.underlying210 rfl info_b) hS0 ?_
  try simp only [Act.put, zq1, zq2, zq3]
  refine ztk 3 { dst := some 17, op := .move (.tmp 1), type := 3, pos := "book.go:48", after := #[], guard := none } (.int .i64 o) (Or.inl ⟨by rfl, by intro w hSw; clear hSw; go_simp⟩) hS0 ?_
  try simp only [Act.put, zq1, zq2, zq3]
  refine ztk 4 { dst := some 18, op := .load 37 (.tmp 6), type := 37, pos := "book.go:48", after := #[], guard := none } (.agg #[.int .i64 a, .int .i64 b, .int .i64 d, .int .i64 e]) (yieldsIf_load_mid (by rfl) _ _ rfl _ _ rfl _ _ (fun w h => rng_bel (rngB (C := [.int .i64 a, .int .i64 b, .int .i64 d, .int .i64 e]) S0.out) h) Tryz.underlying37 rfl info_s) hS0 ?_
  try simp only [Act.put, zq1, zq2, zq3]
  refine wpAnyH_ready (rs := [5]) (by kernel_rfl) (by simp) ?_
  refine AllReadyH.cons (o := { dst := some 19, op := .call { callee := .value (.func 74), args := #[.tmp 16, .tmp 17, .tmp 18], argTypes := #[25, 3, 37] }, type := 32, pos := "book.go:48", after := #[{ on := 2, ground := .data }, { on := 3, ground := .data }, { on := 4, ground := .data }], guard := none }) rfl (fun K hK => ?_) AllReadyH.nil
  go_simp
  refine (SO.out _ (B0.out.trans hS0)).mono ?_
  rintro e v1 ⟨rfl, kb⟩
  go_wp2_with fail
  refine hK.out _ _ (hS0.trans kb) (fun hS1 => ?_)
  clear hK K
  try simp only [Act.put, zq1, zq2, zq3]
  refine ztk 6 { dst := some 10, op := .assign (.tmp 19), type := 32, pos := "book.go:48", after := #[{ on := 5, ground := .data }, { on := 5, ground := .chain }, { on := 0, ground := .phase }, { on := 1, ground := .phase }, { on := 2, ground := .phase }, { on := 3, ground := .phase }, { on := 4, ground := .phase }, { on := 5, ground := .phase }], guard := none } (.int .u64 s) (Or.inl ⟨by rfl, by intro w hSw; clear hSw; go_simp⟩) hS1 ?_
  try simp only [Act.put, zq1, zq2, zq3]
  refine wpAnyH_done (by kernel_rfl) ?_ _
  have BX := Lib.hid hS1
  clear hS0 hS1 kb SO
  by_cases hs0 : s = 0
  · obtain rfl : E = 10 := HWY.out.1 hs0
    subst hs0
    go_wp2_with fail
    go_ret2
    first
      | exact ⟨rfl, Kep.of_bel (B0.out.trans BX.out)⟩
      | exact ⟨rfl, Kep.of_bel (B0.out.trans BX.out), fun h => absurd h (by decide)⟩
  have hs1 : (s == 0) = false := by rw [beq_eq_false_iff_ne]; exact hs0
  by_cases hsx : s < x
  · obtain rfl : E = 13 := HWY.out.2.1 (by omega) (by omega)
    go_wp2_with fail
    go_ret2
    first
      | exact ⟨rfl, Kep.of_bel (B0.out.trans BX.out)⟩
      | exact ⟨rfl, Kep.of_bel (B0.out.trans BX.out), fun h => absurd h (by decide)⟩
  obtain rfl : E = E2 := HWY.out.2.2 (by omega) (by omega)
  have hsx1 : decide (s < x) = false := decide_eq_false hsx
  have HLE := Lib.hid (show x ≤ s by omega)
  go_upto_region 6 with fail
  rename World => X
  refine wp_region_held_drew (S := fun Vx => Bel X Vx) (by kernel_rfl) (Bel.refl _).drew (fun hS0 => ?_)
  obtain ⟨w6, hw6⟩ : ∃ w6, World.drew X = w6 := ⟨_, rfl⟩
  rw [hw6] at hS0 ⊢
  clear hw6
  refine ztk 0 { dst := some 26, op := .move (.tmp 0), type := 152, pos := "book.go:55", after := #[], guard := none } (.pointer (some ⟨p, 0, none⟩)) (Or.inl ⟨by rfl, by intro w hSw; clear hSw; go_simp⟩) hS0 ?_
  try simp only [Act.put, zq1, zq2, zq3]
  refine ztk 1 { dst := some 27, op := Op.nilCheck (.tmp 26), type := 0, pos := "book.go:55", after := #[{ on := 0, ground := .data }], guard := none } (.pointer (some ⟨p, 0, none⟩)) (Or.inl ⟨by rfl, by intro w hSw; clear hSw; go_simp⟩) hS0 ?_
  try simp only [Act.put, zq1, zq2, zq3]
  refine ztk 2 { dst := some 28, op := .load 210 (.tmp 27), type := 210, pos := "book.go:55", after := #[{ on := 1, ground := .data }], guard := none } (.agg #[.slice A1 n1 c1, .slice A2 n2 c2]) (yieldsIf_load_mid (by rfl) _ _ rfl _ _ rfl _ _ (fun w h => rng_bel (rngB (C := [.slice A1 n1 c1, .slice A2 n2 c2]) (H.out.blk.bel BX.out)) h) Tryz.underlying210 rfl info_b) hS0 ?_
  try simp only [Act.put, zq1, zq2, zq3]
  refine ztk 3 { dst := some 29, op := .load 37 (.tmp 6), type := 37, pos := "book.go:55", after := #[], guard := none } (.agg #[.int .i64 a, .int .i64 b, .int .i64 d, .int .i64 e]) (yieldsIf_load_mid (by rfl) _ _ rfl _ _ rfl _ _ (fun w h => rng_bel (rngB (C := [.int .i64 a, .int .i64 b, .int .i64 d, .int .i64 e]) (S0.out.bel BX.out)) h) Tryz.underlying37 rfl info_s) hS0 ?_
  try simp only [Act.put, zq1, zq2, zq3]
  refine ztk 5 { dst := some 31, op := .move (.tmp 3), type := 32, pos := "book.go:55", after := #[], guard := none } (.int .u64 x) (Or.inl ⟨by rfl, by intro w hSw; clear hSw; go_simp⟩) hS0 ?_
  try simp only [Act.put, zq1, zq2, zq3]
  refine wpAnyH_ready (rs := [4, 11]) (by kernel_rfl) (by simp) ?_
  refine AllReadyH.cons (o := { dst := some 30, op := .call { callee := .value (.func 76), args := #[.tmp 28, .tmp 29], argTypes := #[25, 37] }, type := 46, pos := "book.go:55", after := #[{ on := 2, ground := .data }, { on := 3, ground := .data }], guard := none }) rfl (fun K hK => ?_) (AllReadyH.cons (o := { dst := some 11, op := .alloc 46, type := 0, pos := "book.go:55", after := #[], guard := none }) rfl (fun K hK => ?_) AllReadyH.nil)
  · go_simp
    refine (PO.out _ (B0.out.trans (BX.out.trans hS0))).mono ?_
    rintro e v1 ⟨rfl, kb⟩
    go_wp2_with fail
    refine hK.out _ _ (hS0.trans kb) (fun hS1 => ?_)
    clear hK K
    try simp only [Act.put, zq1, zq2, zq3]
    refine wpAnyH_ready (rs := [6, 11]) (by kernel_rfl) (by simp) ?_
    refine AllReadyH.cons (o := { dst := some 32, op := .call { callee := .value (.func 176), args := #[.tmp 30, .tmp 31], argTypes := #[46, 32] }, type := 173, pos := "book.go:55", after := #[{ on := 4, ground := .data }, { on := 5, ground := .data }, { on := 4, ground := .chain }], guard := none }) rfl (fun K hK => ?_) (AllReadyH.cons (o := { dst := some 11, op := .alloc 46, type := 0, pos := "book.go:55", after := #[], guard := none }) rfl (fun K hK => ?_) AllReadyH.nil)
    · go_simp
      refine (LV.out _).mono ?_
      rintro e v2 ⟨rfl, kb2⟩
      go_wp2_with fail
      refine hK.out _ _ (hS1.trans kb2) (fun hS2 => ?_)
      clear hK K
      try simp only [Act.put, zq1, zq2, zq3]
      refine ztk 7 { dst := some 25, op := .move (.tmp 32), type := 173, pos := "book.go:55", after := #[{ on := 6, ground := .data }], guard := none } (.tuple #[.agg #[.int .u64 T2, .int .u64 S2], .int .u64 N2, .int .i64 E]) (Or.inl ⟨by rfl, by intro w hSw; clear hSw; go_simp⟩) hS2 ?_
      try simp only [Act.put, zq1, zq2, zq3]
      refine ztk 8 { dst := some 33, op := .extract (.tmp 25) 0, type := 46, pos := "book.go:55", after := #[{ on := 7, ground := .data }], guard := none } (.agg #[.int .u64 T2, .int .u64 S2]) (Or.inl ⟨by rfl, by intro w hSw; clear hSw; go_simp⟩) hS2 ?_
      try simp only [Act.put, zq1, zq2, zq3]
      refine ztk 9 { dst := some 34, op := .extract (.tmp 25) 1, type := 32, pos := "book.go:55", after := #[{ on := 7, ground := .data }, { on := 12, ground := .gcOnly .lateStores }], guard := none } (.int .u64 N2) (Or.inl ⟨by rfl, by intro w hSw; clear hSw; go_simp⟩) hS2 ?_
      try simp only [Act.put, zq1, zq2, zq3]
      refine ztk 10 { dst := some 35, op := .extract (.tmp 25) 2, type := 30, pos := "book.go:55", after := #[{ on := 7, ground := .data }, { on := 13, ground := .gcOnly .lateStores }], guard := none } (.int .i64 E) (Or.inl ⟨by rfl, by intro w hSw; clear hSw; go_simp⟩) hS2 ?_
      try simp only [Act.put, zq1, zq2, zq3]
      refine wpAnyH_ready (rs := [11]) (by kernel_rfl) (by simp) ?_
      refine AllReadyH.cons (o := { dst := some 11, op := .alloc 46, type := 0, pos := "book.go:55", after := #[], guard := none }) rfl (fun K hK => ?_) AllReadyH.nil
      go_simp
      refine hK.out _ _ (hS2.alloc _) (fun hS3 => ?_)
      clear hK K
      try simp only [Act.put, zq1, zq2, zq3]
      have glb := Blk.new v2 #[.int .u64 0, .int .u64 0] 46
      have gll := Lib.hid (Below.size hS2)
      generalize hvq : World.alloc v2 (Obj.cells #[.int .u64 0, .int .u64 0] 46) = v3 at glb hS3 ⊢
      have glk : Bel v2 v3 := by rw [← hvq]; exact (Bel.refl _).alloc _
      clear hvq
      obtain ⟨gl, hgq⟩ : ∃ g, (World.heap v2).size = g := ⟨_, rfl⟩
      rw [hgq] at glb gll ⊢
      clear hgq
      have glb := Lib.hid glb
      refine wpAnyH_ready (rs := [12]) (by kernel_rfl) (by simp) ?_
      refine AllReadyH.cons (o := { dst := none, op := .store 46 (.tmp 11) (.tmp 33), type := 0, pos := "book.go:55", after := #[{ on := 11, ground := .data }, { on := 8, ground := .data }, { on := 6, ground := .chain }, { on := 0, ground := .phase }, { on := 1, ground := .phase }, { on := 2, ground := .phase }, { on := 3, ground := .phase }, { on := 4, ground := .phase }, { on := 5, ground := .phase }, { on := 6, ground := .phase }, { on := 7, ground := .phase }, { on := 8, ground := .phase }, { on := 9, ground := .textOnly .lateStores }, { on := 10, ground := .textOnly .lateStores }, { on := 11, ground := .phase }], guard := none }) rfl (fun K hK => ?_) AllReadyH.nil
      have QB : Blk v3 gl #[.int .u64 0, .int .u64 0] 46 := by first | exact glb.out | exact glb.out.bel kb2 | exact (glb.out.bel kb).bel kb2
      have q0 := QB.cell 0 rfl
      have q1 := QB.cell 1 rfl
      have qf0 := QB.frozen 0
      have qf1 := QB.frozen 1
      go_simp
      refine hK.out _ _ ((hS3.set (p := ⟨gl, 0, none⟩) gll.out _).set (p := ⟨gl, 1, none⟩) gll.out _) (fun hS4 => ?_)
      clear hK K
      try simp only [Act.put, zq1, zq2, zq3]
      refine ztk 13 { dst := some 12, op := .assign (.tmp 34), type := 32, pos := "book.go:55", after := #[{ on := 9, ground := .data }, { on := 12, ground := .chain }, { on := 0, ground := .phase }, { on := 1, ground := .phase }, { on := 2, ground := .phase }, { on := 3, ground := .phase }, { on := 4, ground := .phase }, { on := 5, ground := .phase }, { on := 6, ground := .phase }, { on := 7, ground := .phase }, { on := 8, ground := .phase }, { on := 9, ground := .phase }, { on := 10, ground := .textOnly .lateStores }, { on := 11, ground := .phase }, { on := 12, ground := .phase }], guard := none } (.int .u64 N2) (Or.inl ⟨by rfl, by intro w hSw; clear hSw; go_simp⟩) hS4 ?_
      try simp only [Act.put, zq1, zq2, zq3]
      refine ztk 14 { dst := some 13, op := .assign (.tmp 35), type := 30, pos := "book.go:55", after := #[{ on := 10, ground := .data }, { on := 13, ground := .chain }, { on := 0, ground := .phase }, { on := 1, ground := .phase }, { on := 2, ground := .phase }, { on := 3, ground := .phase }, { on := 4, ground := .phase }, { on := 5, ground := .phase }, { on := 6, ground := .phase }, { on := 7, ground := .phase }, { on := 8, ground := .phase }, { on := 9, ground := .phase }, { on := 10, ground := .phase }, { on := 11, ground := .phase }, { on := 12, ground := .phase }, { on := 13, ground := .phase }], guard := none } (.int .i64 E) (Or.inl ⟨by rfl, by intro w hSw; clear hSw; go_simp⟩) hS4 ?_
      try simp only [Act.put, zq1, zq2, zq3]
      refine wpAnyH_done (by kernel_rfl) ?_ _
      have HE := Lib.hid hS4
      have hqn : Blk ((v3.setCell ⟨gl, 0, none⟩ (.int .u64 T2)).setCell ⟨gl, 1, none⟩ (.int .u64 S2)) gl #[.int .u64 T2, .int .u64 S2] 46 := (QB.set 0 _).set 1 _
      have QN := Lib.hid hqn
      obtain ⟨Y, hY⟩ : ∃ Y, (v3.setCell ⟨gl, 0, none⟩ (.int .u64 T2)).setCell ⟨gl, 1, none⟩ (.int .u64 S2) = Y := ⟨_, rfl⟩
      rw [hY] at HE QN ⊢
      clear hY hqn QB q0 q1 qf0 qf1 hS0 hS1 hS2 hS3 hS4 kb kb2
      have BY := Lib.hid (B0.out.trans (BX.out.trans HE.out))
      have HY := Lib.hid (H.out.bel (BX.out.trans HE.out))
      have SY := Lib.hid (S0.out.bel (BX.out.trans HE.out))
      have HBY := Lib.hid (Nat.le_trans HBS.out (Below.size (BX.out.trans HE.out)))
      by_cases hE0 : E = 0
      · subst hE0
        have d0 := QN.out.cell 0 rfl
        have d1 := QN.out.cell 1 rfl
        have e0 := SY.out.cell 0 rfl
        have e1 := SY.out.cell 1 rfl
        have e2 := SY.out.cell 2 rfl
        have e3 := SY.out.cell 3 rfl
        have hw9 : IntKind.u64.wrap (s - x) = s - x := IntWalk.u64_in _ ⟨by have := HLE.out; omega, by omega⟩
        go_wp2_with fail
        refine (ST.out _ HY.out hs0 HBY.out T2 S2 (s - x)).mono ?_
        rintro r Z ⟨rfl, l1, l2, hbk, hkz⟩
        have HBZ := Lib.hid hbk
        have HKZ := Lib.hid hkz
        clear hbk hkz d0 d1 e0 e1 e2 e3
        go_wp2_with fail
        go_ret2
        first
          | exact ⟨rfl, (Kep.of_bel BY.out).trans HKZ.out, fun _ => ⟨_, _, HBZ.out⟩⟩
          | exact ⟨rfl, (Kep.of_bel BY.out).trans HKZ.out, ⟨_, _, HBZ.out⟩⟩
      · have hne : (E != 0) = true := by rw [bne_iff_ne]; exact hE0
        go_wp2_with fail
        go_ret2
        first
          | exact ⟨rfl, Kep.of_bel BY.out⟩
          | exact ⟨rfl, Kep.of_bel BY.out, fun h => absurd h hE0⟩
          | exact ⟨by rw [if_neg hE0], Kep.of_bel BY.out, fun h => absurd h hE0⟩
    · go_simp
      refine hK.out _ _ (hS1.alloc _) (fun hS2 => ?_)
      clear hK K
      try simp only [Act.put, zq1, zq2, zq3]
      have glb := Blk.new v1 #[.int .u64 0, .int .u64 0] 46
      have gll := Lib.hid (Below.size hS1)
      generalize hvq : World.alloc v1 (Obj.cells #[.int .u64 0, .int .u64 0] 46) = v2 at glb hS2 ⊢
      have glk : Bel v1 v2 := by rw [← hvq]; exact (Bel.refl _).alloc _
      clear hvq
      obtain ⟨gl, hgq⟩ : ∃ g, (World.heap v1).size = g := ⟨_, rfl⟩
      rw [hgq] at glb gll ⊢
      clear hgq
      have glb := Lib.hid glb
      refine wpAnyH_ready (rs := [6]) (by kernel_rfl) (by simp) ?_
      refine AllReadyH.cons (o := { dst := some 32, op := .call { callee := .value (.func 176), args := #[.tmp 30, .tmp 31], argTypes := #[46, 32] }, type := 173, pos := "book.go:55", after := #[{ on := 4, ground := .data }, { on := 5, ground := .data }, { on := 4, ground := .chain }], guard := none }) rfl (fun K hK => ?_) AllReadyH.nil
      go_simp
      refine (LV.out _).mono ?_
      rintro e v3 ⟨rfl, kb2⟩
      go_wp2_with fail
      refine hK.out _ _ (hS2.trans kb2) (fun hS3 => ?_)
      clear hK K
      try simp only [Act.put, zq1, zq2, zq3]
      refine ztk 7 { dst := some 25, op := .move (.tmp 32), type := 173, pos := "book.go:55", after := #[{ on := 6, ground := .data }], guard := none } (.tuple #[.agg #[.int .u64 T2, .int .u64 S2], .int .u64 N2, .int .i64 E]) (Or.inl ⟨by rfl, by intro w hSw; clear hSw; go_simp⟩) hS3 ?_
      try simp only [Act.put, zq1, zq2, zq3]
      refine ztk 8 { dst := some 33, op := .extract (.tmp 25) 0, type := 46, pos := "book.go:55", after := #[{ on := 7, ground := .data }], guard := none } (.agg #[.int .u64 T2, .int .u64 S2]) (Or.inl ⟨by rfl, by intro w hSw; clear hSw; go_simp⟩) hS3 ?_
      try simp only [Act.put, zq1, zq2, zq3]
      refine ztk 9 { dst := some 34, op := .extract (.tmp 25) 1, type := 32, pos := "book.go:55", after := #[{ on := 7, ground := .data }, { on := 12, ground := .gcOnly .lateStores }], guard := none } (.int .u64 N2) (Or.inl ⟨by rfl, by intro w hSw; clear hSw; go_simp⟩) hS3 ?_
      try simp only [Act.put, zq1, zq2, zq3]
      refine ztk 10 { dst := some 35, op := .extract (.tmp 25) 2, type := 30, pos := "book.go:55", after := #[{ on := 7, ground := .data }, { on := 13, ground := .gcOnly .lateStores }], guard := none } (.int .i64 E) (Or.inl ⟨by rfl, by intro w hSw; clear hSw; go_simp⟩) hS3 ?_
      try simp only [Act.put, zq1, zq2, zq3]
      refine wpAnyH_ready (rs := [12]) (by kernel_rfl) (by simp) ?_
      refine AllReadyH.cons (o := { dst := none, op := .store 46 (.tmp 11) (.tmp 33), type := 0, pos := "book.go:55", after := #[{ on := 11, ground := .data }, { on := 8, ground := .data }, { on := 6, ground := .chain }, { on := 0, ground := .phase }, { on := 1, ground := .phase }, { on := 2, ground := .phase }, { on := 3, ground := .phase }, { on := 4, ground := .phase }, { on := 5, ground := .phase }, { on := 6, ground := .phase }, { on := 7, ground := .phase }, { on := 8, ground := .phase }, { on := 9, ground := .textOnly .lateStores }, { on := 10, ground := .textOnly .lateStores }, { on := 11, ground := .phase }], guard := none }) rfl (fun K hK => ?_) AllReadyH.nil
      have QB : Blk v3 gl #[.int .u64 0, .int .u64 0] 46 := by first | exact glb.out | exact glb.out.bel kb2 | exact (glb.out.bel kb).bel kb2
      have q0 := QB.cell 0 rfl
      have q1 := QB.cell 1 rfl
      have qf0 := QB.frozen 0
      have qf1 := QB.frozen 1
      go_simp
      refine hK.out _ _ ((hS3.set (p := ⟨gl, 0, none⟩) gll.out _).set (p := ⟨gl, 1, none⟩) gll.out _) (fun hS4 => ?_)
      clear hK K
      try simp only [Act.put, zq1, zq2, zq3]
      refine ztk 13 { dst := some 12, op := .assign (.tmp 34), type := 32, pos := "book.go:55", after := #[{ on := 9, ground := .data }, { on := 12, ground := .chain }, { on := 0, ground := .phase }, { on := 1, ground := .phase }, { on := 2, ground := .phase }, { on := 3, ground := .phase }, { on := 4, ground := .phase }, { on := 5, ground := .phase }, { on := 6, ground := .phase }, { on := 7, ground := .phase }, { on := 8, ground := .phase }, { on := 9, ground := .phase }, { on := 10, ground := .textOnly .lateStores }, { on := 11, ground := .phase }, { on := 12, ground := .phase }], guard := none } (.int .u64 N2) (Or.inl ⟨by rfl, by intro w hSw; clear hSw; go_simp⟩) hS4 ?_
      try simp only [Act.put, zq1, zq2, zq3]
      refine ztk 14 { dst := some 13, op := .assign (.tmp 35), type := 30, pos := "book.go:55", after := #[{ on := 10, ground := .data }, { on := 13, ground := .chain }, { on := 0, ground := .phase }, { on := 1, ground := .phase }, { on := 2, ground := .phase }, { on := 3, ground := .phase }, { on := 4, ground := .phase }, { on := 5, ground := .phase }, { on := 6, ground := .phase }, { on := 7, ground := .phase }, { on := 8, ground := .phase }, { on := 9, ground := .phase }, { on := 10, ground := .phase }, { on := 11, ground := .phase }, { on := 12, ground := .phase }, { on := 13, ground := .phase }], guard := none } (.int .i64 E) (Or.inl ⟨by rfl, by intro w hSw; clear hSw; go_simp⟩) hS4 ?_
      try simp only [Act.put, zq1, zq2, zq3]
      refine wpAnyH_done (by kernel_rfl) ?_ _
      have HE := Lib.hid hS4
      have hqn : Blk ((v3.setCell ⟨gl, 0, none⟩ (.int .u64 T2)).setCell ⟨gl, 1, none⟩ (.int .u64 S2)) gl #[.int .u64 T2, .int .u64 S2] 46 := (QB.set 0 _).set 1 _
      have QN := Lib.hid hqn
      obtain ⟨Y, hY⟩ : ∃ Y, (v3.setCell ⟨gl, 0, none⟩ (.int .u64 T2)).setCell ⟨gl, 1, none⟩ (.int .u64 S2) = Y := ⟨_, rfl⟩
      rw [hY] at HE QN ⊢
      clear hY hqn QB q0 q1 qf0 qf1 hS0 hS1 hS2 hS3 hS4 kb kb2
      have BY := Lib.hid (B0.out.trans (BX.out.trans HE.out))
      have HY := Lib.hid (H.out.bel (BX.out.trans HE.out))
      have SY := Lib.hid (S0.out.bel (BX.out.trans HE.out))
      have HBY := Lib.hid (Nat.le_trans HBS.out (Below.size (BX.out.trans HE.out)))
      by_cases hE0 : E = 0
      · subst hE0
        have d0 := QN.out.cell 0 rfl
        have d1 := QN.out.cell 1 rfl
        have e0 := SY.out.cell 0 rfl
        have e1 := SY.out.cell 1 rfl
        have e2 := SY.out.cell 2 rfl
        have e3 := SY.out.cell 3 rfl
        have hw9 : IntKind.u64.wrap (s - x) = s - x := IntWalk.u64_in _ ⟨by have := HLE.out; omega, by omega⟩
        go_wp2_with fail
        refine (ST.out _ HY.out hs0 HBY.out T2 S2 (s - x)).mono ?_
        rintro r Z ⟨rfl, l1, l2, hbk, hkz⟩
        have HBZ := Lib.hid hbk
        have HKZ := Lib.hid hkz
        clear hbk hkz d0 d1 e0 e1 e2 e3
        go_wp2_with fail
        go_ret2
        first
          | exact ⟨rfl, (Kep.of_bel BY.out).trans HKZ.out, fun _ => ⟨_, _, HBZ.out⟩⟩
          | exact ⟨rfl, (Kep.of_bel BY.out).trans HKZ.out, ⟨_, _, HBZ.out⟩⟩
      · have hne : (E != 0) = true := by rw [bne_iff_ne]; exact hE0
        go_wp2_with fail
        go_ret2
        first
          | exact ⟨rfl, Kep.of_bel BY.out⟩
          | exact ⟨rfl, Kep.of_bel BY.out, fun h => absurd h hE0⟩
          | exact ⟨by rw [if_neg hE0], Kep.of_bel BY.out, fun h => absurd h hE0⟩
  · go_simp
    refine hK.out _ _ (hS0.alloc _) (fun hS1 => ?_)
    clear hK K
    try simp only [Act.put, zq1, zq2, zq3]
    have glb := Blk.new w6 #[.int .u64 0, .int .u64 0] 46
    have gll := Lib.hid (Below.size hS0)
    generalize hvq : World.alloc w6 (Obj.cells #[.int .u64 0, .int .u64 0] 46) = v1 at glb hS1 ⊢
    have glk : Bel w6 v1 := by rw [← hvq]; exact (Bel.refl _).alloc _
    clear hvq
    obtain ⟨gl, hgq⟩ : ∃ g, (World.heap w6).size = g := ⟨_, rfl⟩
    rw [hgq] at glb gll ⊢
    clear hgq
    have glb := Lib.hid glb
    refine wpAnyH_ready (rs := [4]) (by kernel_rfl) (by simp) ?_
    refine AllReadyH.cons (o := { dst := some 30, op := .call { callee := .value (.func 76), args := #[.tmp 28, .tmp 29], argTypes := #[25, 37] }, type := 46, pos := "book.go:55", after := #[{ on := 2, ground := .data }, { on := 3, ground := .data }], guard := none }) rfl (fun K hK => ?_) AllReadyH.nil
    go_simp
    refine (PO.out _ (B0.out.trans (BX.out.trans hS1))).mono ?_
    rintro e v2 ⟨rfl, kb⟩
    go_wp2_with fail
    refine hK.out _ _ (hS1.trans kb) (fun hS2 => ?_)
    clear hK K
    try simp only [Act.put, zq1, zq2, zq3]
    refine wpAnyH_ready (rs := [6]) (by kernel_rfl) (by simp) ?_
    refine AllReadyH.cons (o := { dst := some 32, op := .call { callee := .value (.func 176), args := #[.tmp 30, .tmp 31], argTypes := #[46, 32] }, type := 173, pos := "book.go:55", after := #[{ on := 4, ground := .data }, { on := 5, ground := .data }, { on := 4, ground := .chain }], guard := none }) rfl (fun K hK => ?_) AllReadyH.nil
    go_simp
    refine (LV.out _).mono ?_
    rintro e v3 ⟨rfl, kb2⟩
    go_wp2_with fail
    refine hK.out _ _ (hS2.trans kb2) (fun hS3 => ?_)
    clear hK K
    try simp only [Act.put, zq1, zq2, zq3]
    refine ztk 7 { dst := some 25, op := .move (.tmp 32), type := 173, pos := "book.go:55", after := #[{ on := 6, ground := .data }], guard := none } (.tuple #[.agg #[.int .u64 T2, .int .u64 S2], .int .u64 N2, .int .i64 E]) (Or.inl ⟨by rfl, by intro w hSw; clear hSw; go_simp⟩) hS3 ?_
    try simp only [Act.put, zq1, zq2, zq3]
    refine ztk 8 { dst := some 33, op := .extract (.tmp 25) 0, type := 46, pos := "book.go:55", after := #[{ on := 7, ground := .data }], guard := none } (.agg #[.int .u64 T2, .int .u64 S2]) (Or.inl ⟨by rfl, by intro w hSw; clear hSw; go_simp⟩) hS3 ?_
    try simp only [Act.put, zq1, zq2, zq3]
    refine ztk 9 { dst := some 34, op := .extract (.tmp 25) 1, type := 32, pos := "book.go:55", after := #[{ on := 7, ground := .data }, { on := 12, ground := .gcOnly .lateStores }], guard := none } (.int .u64 N2) (Or.inl ⟨by rfl, by intro w hSw; clear hSw; go_simp⟩) hS3 ?_
    try simp only [Act.put, zq1, zq2, zq3]
    refine ztk 10 { dst := some 35, op := .extract (.tmp 25) 2, type := 30, pos := "book.go:55", after := #[{ on := 7, ground := .data }, { on := 13, ground := .gcOnly .lateStores }], guard := none } (.int .i64 E) (Or.inl ⟨by rfl, by intro w hSw; clear hSw; go_simp⟩) hS3 ?_
    try simp only [Act.put, zq1, zq2, zq3]
    refine wpAnyH_ready (rs := [12]) (by kernel_rfl) (by simp) ?_
    refine AllReadyH.cons (o := { dst := none, op := .store 46 (.tmp 11) (.tmp 33), type := 0, pos := "book.go:55", after := #[{ on := 11, ground := .data }, { on := 8, ground := .data }, { on := 6, ground := .chain }, { on := 0, ground := .phase }, { on := 1, ground := .phase }, { on := 2, ground := .phase }, { on := 3, ground := .phase }, { on := 4, ground := .phase }, { on := 5, ground := .phase }, { on := 6, ground := .phase }, { on := 7, ground := .phase }, { on := 8, ground := .phase }, { on := 9, ground := .textOnly .lateStores }, { on := 10, ground := .textOnly .lateStores }, { on := 11, ground := .phase }], guard := none }) rfl (fun K hK => ?_) AllReadyH.nil
    have QB : Blk v3 gl #[.int .u64 0, .int .u64 0] 46 := by first | exact glb.out | exact glb.out.bel kb2 | exact (glb.out.bel kb).bel kb2
    have q0 := QB.cell 0 rfl
    have q1 := QB.cell 1 rfl
    have qf0 := QB.frozen 0
    have qf1 := QB.frozen 1
    go_simp
    refine hK.out _ _ ((hS3.set (p := ⟨gl, 0, none⟩) gll.out _).set (p := ⟨gl, 1, none⟩) gll.out _) (fun hS4 => ?_)
    clear hK K
    try simp only [Act.put, zq1, zq2, zq3]
    refine ztk 13 { dst := some 12, op := .assign (.tmp 34), type := 32, pos := "book.go:55", after := #[{ on := 9, ground := .data }, { on := 12, ground := .chain }, { on := 0, ground := .phase }, { on := 1, ground := .phase }, { on := 2, ground := .phase }, { on := 3, ground := .phase }, { on := 4, ground := .phase }, { on := 5, ground := .phase }, { on := 6, ground := .phase }, { on := 7, ground := .phase }, { on := 8, ground := .phase }, { on := 9, ground := .phase }, { on := 10, ground := .textOnly .lateStores }, { on := 11, ground := .phase }, { on := 12, ground := .phase }], guard := none } (.int .u64 N2) (Or.inl ⟨by rfl, by intro w hSw; clear hSw; go_simp⟩) hS4 ?_
    try simp only [Act.put, zq1, zq2, zq3]
    refine ztk 14 { dst := some 13, op := .assign (.tmp 35), type := 30, pos := "book.go:55", after := #[{ on := 10, ground := .data }, { on := 13, ground := .chain }, { on := 0, ground := .phase }, { on := 1, ground := .phase }, { on := 2, ground := .phase }, { on := 3, ground := .phase }, { on := 4, ground := .phase }, { on := 5, ground := .phase }, { on := 6, ground := .phase }, { on := 7, ground := .phase }, { on := 8, ground := .phase }, { on := 9, ground := .phase }, { on := 10, ground := .phase }, { on := 11, ground := .phase }, { on := 12, ground := .phase }, { on := 13, ground := .phase }], guard := none } (.int .i64 E) (Or.inl ⟨by rfl, by intro w hSw; clear hSw; go_simp⟩) hS4 ?_
    try simp only [Act.put, zq1, zq2, zq3]
    refine wpAnyH_done (by kernel_rfl) ?_ _
    have HE := Lib.hid hS4
    have hqn : Blk ((v3.setCell ⟨gl, 0, none⟩ (.int .u64 T2)).setCell ⟨gl, 1, none⟩ (.int .u64 S2)) gl #[.int .u64 T2, .int .u64 S2] 46 := (QB.set 0 _).set 1 _
    have QN := Lib.hid hqn
    obtain ⟨Y, hY⟩ : ∃ Y, (v3.setCell ⟨gl, 0, none⟩ (.int .u64 T2)).setCell ⟨gl, 1, none⟩ (.int .u64 S2) = Y := ⟨_, rfl⟩
    rw [hY] at HE QN ⊢
    clear hY hqn QB q0 q1 qf0 qf1 hS0 hS1 hS2 hS3 hS4 kb kb2
    have BY := Lib.hid (B0.out.trans (BX.out.trans HE.out))
    have HY := Lib.hid (H.out.bel (BX.out.trans HE.out))
    have SY := Lib.hid (S0.out.bel (BX.out.trans HE.out))
    have HBY := Lib.hid (Nat.le_trans HBS.out (Below.size (BX.out.trans HE.out)))
    by_cases hE0 : E = 0
    · subst hE0
      have d0 := QN.out.cell 0 rfl
      have d1 := QN.out.cell 1 rfl
      have e0 := SY.out.cell 0 rfl
      have e1 := SY.out.cell 1 rfl
      have e2 := SY.out.cell 2 rfl
      have e3 := SY.out.cell 3 rfl
      have hw9 : IntKind.u64.wrap (s - x) = s - x := IntWalk.u64_in _ ⟨by have := HLE.out; omega, by omega⟩
      go_wp2_with fail
      refine (ST.out _ HY.out hs0 HBY.out T2 S2 (s - x)).mono ?_
      rintro r Z ⟨rfl, l1, l2, hbk, hkz⟩
      have HBZ := Lib.hid hbk
      have HKZ := Lib.hid hkz
      clear hbk hkz d0 d1 e0 e1 e2 e3
      go_wp2_with fail
      go_ret2
      first
        | exact ⟨rfl, (Kep.of_bel BY.out).trans HKZ.out, fun _ => ⟨_, _, HBZ.out⟩⟩
        | exact ⟨rfl, (Kep.of_bel BY.out).trans HKZ.out, ⟨_, _, HBZ.out⟩⟩
    · have hne : (E != 0) = true := by rw [bne_iff_ne]; exact hE0
      go_wp2_with fail
      go_ret2
      first
        | exact ⟨rfl, Kep.of_bel BY.out⟩
        | exact ⟨rfl, Kep.of_bel BY.out, fun h => absurd h hE0⟩
        | exact ⟨by rw [if_neg hE0], Kep.of_bel BY.out, fun h => absurd h hE0⟩
end Ho
end Go.Proofs.YtneajcoiemkfbaaGreat
end

section
/-
  What a book's join tells and makes. Conditions: the book is a valid holding of at most a million rows; amounts are words.
-/
namespace Go.Proofs.YtneajcoiemkfbaaGreat
open Go.RowKit Go.Shelf
set_option linter.unusedVariables false
set_option linter.unusedSimpArgs false
namespace Ho
open Kk Pm

theorem joi_is {T S a : Int} (h : Sh.joiE T S a = 0) : Sh.joiT T S a = T + a ∧ Sh.joiS T S a = S + Sh.priN T S a ∧ Sh.joiN T S a = Sh.priN T S a := ⟨if_pos h, if_pos h, if_pos h⟩
theorem pri_pos {T S x : Int} (t0 : 0 ≤ T) (s0 : 0 ≤ S) (x0 : 0 ≤ x) (h : Sh.joiE T S x = 0) : 0 < Sh.priN T S x ∧ 0 < x ∧ T + x ≤ 4611686018427387904 ∧ S + Sh.priN T S x ≤ 18446744073709551615 := by
  obtain ⟨h1, h2, h3, h4, h5⟩ := Sh.joi_ok h
  obtain ⟨g1, g2, g3⟩ := Sh.chk_ok h1
  refine ⟨?_, by omega, h4, h5⟩
  unfold Sh.priN
  rw [if_pos h3]
  unfold Sh.pri
  split
  · omega
  · rename_i hS
    have hT : 0 < T := by rcases Int.lt_or_le 0 T with h | h; exact h; exact absurd (g3 (by omega)) hS
    have : x ≤ x * S / T := Int.le_ediv_of_mul_le hT (Int.mul_le_mul_of_nonneg_left g1 x0)
    omega
theorem sum_ge0 {f : R6 → Int} : ∀ {l : List R6}, (∀ y ∈ l, 0 ≤ f y) → 0 ≤ (l.map f).sum
  | [], _ => Int.le_refl _
  | y :: l, h0 => by
    rw [List.map_cons, List.sum_cons]
    have := h0 y List.mem_cons_self
    have := sum_ge0 (fun z hz => h0 z (List.mem_cons_of_mem _ hz))
    omega
theorem sum_mem {f : R6 → Int} : ∀ {l : List R6} {r : R6}, (∀ y ∈ l, 0 ≤ f y) → r ∈ l → f r ≤ (l.map f).sum
  | y :: l, r, h0, hr => by
    have h1 := sum_ge0 (fun z hz => h0 z (List.mem_cons_of_mem _ hz))
    rw [List.map_cons, List.sum_cons]
    have hy := h0 y List.mem_cons_self
    rcases List.mem_cons.1 hr with rfl | hr
    · omega
    · have := sum_mem (fun z hz => h0 z (List.mem_cons_of_mem _ hz)) hr
      omega
theorem shs_le {cs ps : List R6} (hok : Ok cs ps) (hwc : ∀ r ∈ cs, Wd r) (hwp : Wp ps) (o a b d e : Int) : shs ps (o, a, b, d, e, 0) ≤ polS cs (a, b, d, e, 0, 0) := by
  by_cases hs : shs ps (o, a, b, d, e, 0) = 0
  · rw [hs]; exact (pol_words hwc _).2.2.1
  · have hin := (shs_in hok hs 0 0 0).2
    unfold shs at hs ⊢
    cases hg : get ordP ps (o, a, b, d, e, 0) with
    | none => rw [hg] at hs; exact absurd rfl hs
    | some r =>
      obtain ⟨h0, hm⟩ := get_key hg
      unfold polS
      cases hc : get ordC cs (a, b, d, e, 0, 0) with
      | none => unfold inB at hin; rw [hc] at hin; cases hin
      | some c =>
        obtain ⟨g0, gm⟩ := get_key hc
        have ha := hok.add c gm
        show shr r ≤ shr c
        rw [← ha]
        unfold sumS
        have hf : (if ordC (stp r) c = 0 then shr r else 0) = shr r := by
          obtain ⟨r1, r2, r3, r4, r5, r6⟩ := r
          obtain ⟨c1, c2, c3, c4, c5, c6⟩ := c
          obtain ⟨e1, e2, e3, e4, e5⟩ := same_p h0
          obtain ⟨f1, f2, f3, f4⟩ := same_c g0
          subst e1 e2 e3 e4 e5 f1 f2 f3 f4
          exact if_pos (show _ = _ from odC.self (c1, c2, c3, c4, c5, c6))
        have := sum_mem (f := fun p => if ordC (stp p) c = 0 then shr p else 0) (l := ps) (r := r) (fun y hy => by
          show 0 ≤ ite _ _ _
          split
          · exact (hwp y hy).1
          · exact Int.le_refl _) hm
        rw [hf] at this
        exact this
/-- What join tells. -/
def bJE (o a b d e T S : Int) (n : Nat) (tot x : Int) : Int := Sh.fE [if ¬ (0 ≤ o ∧ o ≤ 63) ∨ Sm.ck a b d e ≠ 0 then 3 else 0, if (T = 0 ∧ S = 0) ∧ n = 1024 then 7 else 0, Sh.joiE T S x, if 4611686018427387904 < tot + x then 12 else 0]
theorem bJE_ways (o a b d e T S : Int) (n : Nat) (tot x : Int) : (¬ (0 ≤ o ∧ o ≤ 63) → bJE o a b d e T S n tot x = 3) ∧ (Sm.ck a b d e ≠ 0 → bJE o a b d e T S n tot x = 3) ∧
    ((0 ≤ o ∧ o ≤ 63) → Sm.ck a b d e = 0 → ((T = 0 ∧ S = 0) ∧ n = 1024 → bJE o a b d e T S n tot x = 7) ∧ (¬ ((T = 0 ∧ S = 0) ∧ n = 1024) → (Sh.joiE T S x ≠ 0 → bJE o a b d e T S n tot x = Sh.joiE T S x) ∧
      (Sh.joiE T S x = 0 → 4611686018427387904 < tot + x → bJE o a b d e T S n tot x = 12) ∧ (Sh.joiE T S x = 0 → ¬ 4611686018427387904 < tot + x → bJE o a b d e T S n tot x = 0))) := by
  unfold bJE
  refine ⟨fun h => ?_, fun h => ?_, fun h1 h2 => ⟨fun h => ?_, fun h => ⟨fun h3 => ?_, fun h3 h4 => ?_, fun h3 h4 => ?_⟩⟩⟩
  · rw [if_pos (.inl h), fE_no (by decide)]
  · rw [if_pos (.inr h), fE_no (by decide)]
  · rw [if_neg (by rintro (g | g); exact g h1; exact g h2), fE_go, if_pos h, fE_no (by decide)]
  · rw [if_neg (by rintro (g | g); exact g h1; exact g h2), fE_go, if_neg h, fE_go, fE_no h3]
  · rw [if_neg (by rintro (g | g); exact g h1; exact g h2), fE_go, if_neg h, fE_go, h3, fE_go, if_pos h4, fE_no (by decide)]
  · rw [if_neg (by rintro (g | g); exact g h1; exact g h2), fE_go, if_neg h, fE_go, h3, fE_go, if_neg h4]; rfl
theorem BK.not_in {w : World} {base p b : Nat} {k1 k2 : Value} {cs ps : List R6} {C : Array Value} {t : TypeId} (h : BK w base p k1 k2 cs ps) (hb : Blk w b C t) (h1 : t ≠ 210) (h2 : t ≠ 90) (h3 : t ≠ 93) : ¬ (b = p ∨ k1.ownBlock = some b ∨ k2.ownBlock = some b) := fun e => by
  rcases e with e | e | e
  · exact h1 (blk_ty (e ▸ hb) h.blk)
  · exact own_ne h.oc hb (Ne.symm h2) e
  · exact own_ne h.op hb (Ne.symm h3) e
set_option maxRecDepth 100000 in
set_option maxHeartbeats 8000000 in
theorem join_ (base p : Nat) (k1 k2 : Value) (cs ps : List R6) (o a b d e x : Int) (w : World) (h : BK w base p k1 k2 cs ps) (hok : Ok cs ps) (hm : ps.length ≤ 1000000) (hwc : ∀ r ∈ cs, Wd r) (hwp : Wp ps) (x0 : 0 ≤ x) (x1 : x ≤ 18446744073709551615) (hbs : base ≤ w.heap.size) :
    Calls Tryz.prog 140 #[.pointer (some ⟨p, 0, none⟩), .int .i64 o, .agg #[.int .i64 a, .int .i64 b, .int .i64 d, .int .i64 e], .int .u64 x] w fun r w' =>
      r = .returned (.tuple #[.int .u64 (if bJE o a b d e (polT cs (a, b, d, e, 0, 0)) (polS cs (a, b, d, e, 0, 0)) cs.length (sumT cs) x = 0 then Sh.joiN (polT cs (a, b, d, e, 0, 0)) (polS cs (a, b, d, e, 0, 0)) x else 0), .int .i64 (bJE o a b d e (polT cs (a, b, d, e, 0, 0)) (polS cs (a, b, d, e, 0, 0)) cs.length (sumT cs) x)]) ∧
      Kep (fun b => b = p ∨ k1.ownBlock = some b ∨ k2.ownBlock = some b) w w' ∧
      (bJE o a b d e (polT cs (a, b, d, e, 0, 0)) (polS cs (a, b, d, e, 0, 0)) cs.length (sumT cs) x = 0 → ∃ k1' k2', BK w' base p k1' k2' (setC cs a b d e (Sh.joiT (polT cs (a, b, d, e, 0, 0)) (polS cs (a, b, d, e, 0, 0)) x) (Sh.joiS (polT cs (a, b, d, e, 0, 0)) (polS cs (a, b, d, e, 0, 0)) x)) (setP ps o a b d e (shs ps (o, a, b, d, e, 0) + Sh.joiN (polT cs (a, b, d, e, 0, 0)) (polS cs (a, b, d, e, 0, 0)) x))) := by
  have hn : cs.length ≤ 1000000 := Nat.le_trans hok.len (by decide)
  obtain ⟨t0, t1, s0, s1⟩ := pol_words hwc (a, b, d, e, 0, 0)
  obtain ⟨u0, u1⟩ := shs_words hwp (o, a, b, d, e, 0)
  have u2 := shs_le hok hwc hwp o a b d e
  have hto := hok.tot
  have hts := sumT0 hwc
  obtain ⟨W, hW⟩ : ∃ W, w.alloc (.cells #[.int .i64 a, .int .i64 b, .int .i64 d, .int .i64 e] 37) = W := ⟨_, rfl⟩
  have B0 := Lib.hid (show Bel w W by rw [← hW]; exact (Bel.refl w).alloc _)
  have S0 := Lib.hid (show Blk W w.heap.size #[.int .i64 a, .int .i64 b, .int .i64 d, .int .i64 e] 37 by rw [← hW]; exact Blk.new _ _ _)
  have H := Lib.hid (h.bel B0.out)
  obtain ⟨A1, c1, rfl, hr1, _, _⟩ := h.oc.rs c6C
  obtain ⟨A2, c2, rfl, hr2, _, _⟩ := h.op.rs c6P
  have SO := Lib.hid (fun V (hv : Bel w V) => sharesOf A2 _ c2 ps (.slice A1 cs.length c1) rfl o a b d e V (hr2.bel hv) (by omega) hok.sp)
  have PO := Lib.hid (fun V (hv : Bel w V) => poolOf A1 _ c1 cs (.slice A2 ps.length c2) rfl a b d e V (hr1.bel hv) (by omega) hok.sc)
  have TO := Lib.hid (fun V (hv : Bel w V) => tokensOf A1 _ c1 cs V (hr1.bel hv) (by omega) hwc (by omega))
  obtain ⟨T, hT⟩ : ∃ T, polT cs (a, b, d, e, 0, 0) = T := ⟨_, rfl⟩
  obtain ⟨S, hS⟩ : ∃ S, polS cs (a, b, d, e, 0, 0) = S := ⟨_, rfl⟩
  obtain ⟨s, hs⟩ : ∃ s, shs ps (o, a, b, d, e, 0) = s := ⟨_, rfl⟩
  obtain ⟨K, hK⟩ : ∃ K, sumT cs = K := ⟨_, rfl⟩
  rw [hT] at t0 t1
  rw [hS] at s0 s1
  rw [hs] at u0 u1 u2
  rw [hS] at u2
  rw [hK] at hto hts TO
  rw [hs] at SO
  rw [hT, hS] at PO
  rw [hT, hS, hs, hK]
  have hpp := fun h => pri_pos t0 s0 x0 h
  have hyes := fun h => joi_is (T := T) (S := S) (a := x) h
  have JN := Lib.hid (fun V => Sh.joinX T S x V t0 t1 s0 s1 x0 x1)
  have ST := Lib.hid (fun V (hv : BK V base p (.slice A1 cs.length c1) (.slice A2 ps.length c2) cs ps) (hb : base ≤ V.heap.size) T' S' y (hT' : 0 < T') (hy : 0 < y) => set_ base p _ _ cs ps o a b d e T' S' y V hv hn hm hok.sc hok.sp hb (fun h => by rw [decide_eq_false (by omega)] at h; cases h) (fun h => by rw [decide_eq_true hy] at h; cases h))
  have CKX := Lib.hid (fun V => Sm.check a b d e V)
  obtain ⟨ck, hck⟩ : ∃ c, Sm.ck a b d e = c := ⟨_, rfl⟩
  obtain ⟨n1, hn1⟩ : ∃ n, cs.length = n := ⟨_, rfl⟩
  obtain ⟨n2, hn2⟩ : ∃ n, ps.length = n := ⟨_, rfl⟩
  rw [hn1, hn2] at H SO PO ST
  rw [hn1] at TO
  try rw [hn1]
  try rw [hn2]
  obtain ⟨E, hE⟩ : ∃ E, bJE o a b d e T S n1 K x = E := ⟨_, rfl⟩
  have hw := bJE_ways o a b d e T S n1 K x
  rw [hE] at hw ⊢
  rw [hck] at hw CKX
  obtain ⟨T2, hT2⟩ : ∃ A, Sh.joiT T S x = A := ⟨_, rfl⟩
  obtain ⟨S2, hS2⟩ : ∃ A, Sh.joiS T S x = A := ⟨_, rfl⟩
  obtain ⟨N2, hN2⟩ : ∃ A, Sh.joiN T S x = A := ⟨_, rfl⟩
  obtain ⟨E2, hE2⟩ : ∃ A, Sh.joiE T S x = A := ⟨_, rfl⟩
  rw [hE2] at hw hpp hyes
  rw [hT2, hS2, hN2, hE2] at JN
  rw [hT2, hS2, hN2]
  rw [hT2, hS2, hN2] at hyes
  have HPP := Lib.hid (show E2 = 0 → 0 < N2 ∧ 0 < T2 ∧ 0 < x ∧ x ≤ 4611686018427387904 ∧ s + N2 ≤ 18446744073709551615 from fun h => by
    obtain ⟨h1, h2, h3, h4⟩ := hpp h
    obtain ⟨g1, g2, g3⟩ := hyes h
    rw [g3, g1]
    exact ⟨h1, by omega, h2, by omega, by omega⟩)
  have HWY := Lib.hid hw
  have HBS := Lib.hid (show base ≤ W.heap.size from Nat.le_trans hbs B0.out.size)
  have AC := Lib.hid (fun V => isAccount o V)
  obtain ⟨ac, hac⟩ : ∃ ac, decide (0 ≤ o ∧ o ≤ 63) = ac := ⟨_, rfl⟩
  rw [hac] at AC
  have HAC := Lib.hid hac
  have HTO := Lib.hid hto
  have HTS := Lib.hid hts
  clear hw hE hT2 hS2 hN2 hE2 hn1 hn2 hT hS hs hK hck hac hr1 hr2 h hok hwc hwp hn hm t0 t1 s0 s1 hbs hpp hyes hto hts
  go_enter Tryz.func140, Tryz.ntmps140
  go_upto_region 1 with fail
  try rw [hW]
  obtain ⟨q, hq⟩ : ∃ q, w.heap.size = q := ⟨_, rfl⟩
  rw [hq] at S0 ⊢
  clear hq hW
  have e0 := S0.out.cell 0 rfl
  have e1 := S0.out.cell 1 rfl
  have e2 := S0.out.cell 2 rfl
  have e3 := S0.out.cell 3 rfl
  go_wp2_with fail
  refine (AC.out _).mono ?_
  rintro r V0 ⟨rfl, rfl⟩
  cases ac
  · obtain rfl : E = 3 := HWY.out.1 (of_decide_eq_false HAC.out)
    go_wp2_with fail
    go_ret2
    first
      | exact ⟨rfl, Kep.of_bel B0.out⟩
      | exact ⟨rfl, Kep.of_bel B0.out, fun h => absurd h (by decide)⟩
  have HACY := Lib.hid (of_decide_eq_true HAC.out)
  go_wp2_with fail
  refine (CKX.out _).mono ?_
  rintro r V1 ⟨rfl, kb⟩
  have BC := Lib.hid kb
  clear kb e0 e1 e2 e3 CKX
  by_cases hck : ck = 0
  case neg =>
    obtain rfl : E = 3 := HWY.out.2.1 hck
    have hck1 : (ck != 0) = true := by rw [bne_iff_ne]; exact hck
    go_wp2_with fail
    go_ret2
    first
      | exact ⟨rfl, Kep.of_bel (B0.out.trans BC.out)⟩
      | exact ⟨rfl, Kep.of_bel (B0.out.trans BC.out), fun h => absurd h (by decide)⟩
  have HW2 := Lib.hid (HWY.out.2.2 HACY.out hck)
  subst hck
  go_upto_region 3 with fail
  refine wp_region_held_drew (S := fun Vx => Bel V1 Vx) (by kernel_rfl) (Bel.refl _).drew (fun hS0 => ?_)
  obtain ⟨w6, hw6⟩ : ∃ w6, World.drew V1 = w6 := ⟨_, rfl⟩
  rw [hw6] at hS0 ⊢
  clear hw6
  refine ztk 0 { dst := some 22, op := .move (.tmp 0), type := 152, pos := "book.go:31", after := #[], guard := none } (.pointer (some ⟨p, 0, none⟩)) (Or.inl ⟨by rfl, by intro w hSw; clear hSw; go_simp⟩) hS0 ?_
  try simp only [Act.put, zq1, zq2, zq3]
  refine ztk 1 { dst := some 23, op := Op.nilCheck (.tmp 22), type := 0, pos := "book.go:31", after := #[{ on := 0, ground := .data }], guard := none } (.pointer (some ⟨p, 0, none⟩)) (Or.inl ⟨by rfl, by intro w hSw; clear hSw; go_simp⟩) hS0 ?_
  try simp only [Act.put, zq1, zq2, zq3]
  refine ztk 2 { dst := some 24, op := .load 210 (.tmp 23), type := 210, pos := "book.go:31", after := #[{ on := 1, ground := .data }], guard := none } (.agg #[.slice A1 n1 c1, .slice A2 n2 c2]) (yieldsIf_load_mid (by rfl) _ _ rfl _ _ rfl _ _ (fun w h => rng_bel (rngB (C := [.slice A1 n1 c1, .slice A2 n2 c2]) (H.out.blk.bel BC.out)) h) Tryz.underlying210 rfl info_b) hS0 ?_
  try simp only [Act.put, zq1, zq2, zq3]
  refine ztk 3 { dst := some 25, op := .load 37 (.tmp 6), type := 37, pos := "book.go:31", after := #[], guard := none } (.agg #[.int .i64 a, .int .i64 b, .int .i64 d, .int .i64 e]) (yieldsIf_load_mid (by rfl) _ _ rfl _ _ rfl _ _ (fun w h => rng_bel (rngB (C := [.int .i64 a, .int .i64 b, .int .i64 d, .int .i64 e]) (S0.out.bel BC.out)) h) Tryz.underlying37 rfl info_s) hS0 ?_
  try simp only [Act.put, zq1, zq2, zq3]
  refine wpAnyH_ready (rs := [4, 5]) (by kernel_rfl) (by simp) ?_
  refine AllReadyH.cons (o := { dst := some 26, op := .call { callee := .value (.func 76), args := #[.tmp 24, .tmp 25], argTypes := #[25, 37] }, type := 46, pos := "book.go:31", after := #[{ on := 2, ground := .data }, { on := 3, ground := .data }], guard := none }) rfl (fun K hK => ?_) (AllReadyH.cons (o := { dst := some 10, op := .alloc 46, type := 0, pos := "book.go:31", after := #[], guard := none }) rfl (fun K hK => ?_) AllReadyH.nil)
  · go_simp
    refine (PO.out _ (B0.out.trans (BC.out.trans hS0))).mono ?_
    rintro e v1 ⟨rfl, kb⟩
    go_wp2_with fail
    refine hK.out _ _ (hS0.trans kb) (fun hS1 => ?_)
    clear hK K
    try simp only [Act.put, zq1, zq2, zq3]
    refine wpAnyH_ready (rs := [5]) (by kernel_rfl) (by simp) ?_
    refine AllReadyH.cons (o := { dst := some 10, op := .alloc 46, type := 0, pos := "book.go:31", after := #[], guard := none }) rfl (fun K hK => ?_) AllReadyH.nil
    go_simp
    refine hK.out _ _ (hS1.alloc _) (fun hS2 => ?_)
    clear hK K
    try simp only [Act.put, zq1, zq2, zq3]
    have glb := Blk.new v1 #[.int .u64 0, .int .u64 0] 46
    have gll := Lib.hid (Below.size hS1)
    generalize hvq : World.alloc v1 (Obj.cells #[.int .u64 0, .int .u64 0] 46) = v2 at glb hS2 ⊢
    have glk : Bel v1 v2 := by rw [← hvq]; exact (Bel.refl _).alloc _
    clear hvq
    obtain ⟨gl, hgq⟩ : ∃ g, (World.heap v1).size = g := ⟨_, rfl⟩
    rw [hgq] at glb gll ⊢
    clear hgq
    have glb := Lib.hid glb
    refine wpAnyH_ready (rs := [6]) (by kernel_rfl) (by simp) ?_
    refine AllReadyH.cons (o := { dst := none, op := .store 46 (.tmp 10) (.tmp 26), type := 0, pos := "book.go:31", after := #[{ on := 5, ground := .data }, { on := 4, ground := .data }, { on := 4, ground := .chain }, { on := 0, ground := .phase }, { on := 1, ground := .phase }, { on := 2, ground := .phase }, { on := 3, ground := .phase }, { on := 4, ground := .phase }, { on := 5, ground := .phase }], guard := none }) rfl (fun K hK => ?_) AllReadyH.nil
    have QB : Blk v2 gl #[.int .u64 0, .int .u64 0] 46 := by first | exact glb.out | exact glb.out.bel kb
    have q0 := QB.cell 0 rfl
    have q1 := QB.cell 1 rfl
    have qf0 := QB.frozen 0
    have qf1 := QB.frozen 1
    go_simp
    refine hK.out _ _ ((hS2.set (p := ⟨gl, 0, none⟩) gll.out _).set (p := ⟨gl, 1, none⟩) gll.out _) (fun hS3 => ?_)
    clear hK K
    try simp only [Act.put, zq1, zq2, zq3]
    refine wpAnyH_done (by kernel_rfl) ?_ _
    have HE := Lib.hid hS3
    have hqn : Blk ((v2.setCell ⟨gl, 0, none⟩ (.int .u64 T)).setCell ⟨gl, 1, none⟩ (.int .u64 S)) gl #[.int .u64 T, .int .u64 S] 46 := (QB.set 0 _).set 1 _
    have QN := Lib.hid hqn
    obtain ⟨Y, hY⟩ : ∃ Y, (v2.setCell ⟨gl, 0, none⟩ (.int .u64 T)).setCell ⟨gl, 1, none⟩ (.int .u64 S) = Y := ⟨_, rfl⟩
    rw [hY] at HE QN ⊢
    have BY := Lib.hid (BC.out.trans HE.out)
    clear hY hqn QB q0 q1 qf0 qf1 hS0 hS1 hS2 hS3 kb HE
    have d0 := QN.out.cell 0 rfl
    have d1 := QN.out.cell 1 rfl
    have b0 := (H.out.blk.bel BY.out).cell 0 rfl
    have HFULL := Lib.hid (kill_ways T S)
    by_cases hfull : (T = 0 ∧ S = 0) ∧ n1 = 1024
    · obtain rfl : E = 7 := HW2.out.1 hfull
      obtain ⟨⟨rfl, rfl⟩, rfl⟩ := hfull
      go_wp2_with fail
      go_ret2
      first
        | exact ⟨rfl, Kep.of_bel (B0.out.trans BY.out)⟩
        | exact ⟨rfl, Kep.of_bel (B0.out.trans BY.out), fun h => absurd h (by decide)⟩
    have HW3 := Lib.hid (HW2.out.2 hfull)
    have hff : (T = 0 ∧ S = 0 ∧ ¬ n1 = 1024) ∨ (¬ T = 0) ∨ (T = 0 ∧ ¬ S = 0) := by omega
    have hnx : n1 = 1024 ∨ ((n1 : Int) == 1024) = false := by
      by_cases h : n1 = 1024
      · exact .inl h
      · exact .inr (by rw [beq_eq_false_iff_ne]; omega)
    clear hfull HW2 HFULL
    rcases hff with ⟨hT, hS3, hn9⟩ | hT | ⟨hT, hS3⟩
    case' inl =>
      have hnx2 := hnx.resolve_left hn9
      subst hT hS3
    case' inr.inr => subst hT
    all_goals
      clear hnx
      go_wp2_with fail
      refine (JN.out _).mono ?_
      rintro r V2 ⟨rfl, kb⟩
      have BJ := Lib.hid (BY.out.trans kb)
      clear kb d0 d1 b0
      go_upto_region 7 with fail
      obtain ⟨Z, hZ⟩ : ∃ Z, V2.alloc (.cells #[.int .u64 T2, .int .u64 S2] 46) = Z := ⟨_, rfl⟩
      have BZ := Lib.hid (show Bel W Z by rw [← hZ]; exact BJ.out.alloc _)
      have PZ := Lib.hid (show Blk Z V2.heap.size #[.int .u64 T2, .int .u64 S2] 46 by rw [← hZ]; exact Blk.new _ _ _)
      rw [hZ]
      obtain ⟨gz, hgz⟩ : ∃ g, V2.heap.size = g := ⟨_, rfl⟩
      rw [hgz] at PZ ⊢
      clear hZ hgz
      by_cases hE2 : E2 = 0
      case neg =>
        obtain rfl : E = E2 := HW3.out.1 hE2
        have hne : (E != 0) = true := by rw [bne_iff_ne]; exact hE2
        go_wp2_with fail
        go_ret2
        first
          | exact ⟨rfl, Kep.of_bel (B0.out.trans BZ.out)⟩
          | exact ⟨rfl, Kep.of_bel (B0.out.trans BZ.out), fun h => absurd h hE2⟩
          | exact ⟨by rw [if_neg hE2], Kep.of_bel (B0.out.trans BZ.out), fun h => absurd h hE2⟩
      subst hE2
      have HP2 := Lib.hid (HPP.out (by first | rfl | trivial))
      have b0 := (H.out.blk.bel BZ.out).cell 0 rfl
      go_upto_region 9 with fail
      go_wp2_with fail
      refine (TO.out _ (B0.out.trans BZ.out)).mono ?_
      rintro r V3 ⟨rfl, kb⟩
      have BT := Lib.hid (BZ.out.trans kb)
      have PT := Lib.hid (PZ.out.bel kb)
      have hwr : IntKind.u64.wrap (K + x) = K + x := IntWalk.u64_in _ ⟨by have := HTS.out; omega, by have := HTO.out; have := HP2.out; omega⟩
      clear kb b0
      by_cases hov : 4611686018427387904 < K + x
      · obtain rfl : E = 12 := HW3.out.2.1 (by first | rfl | trivial) (by omega)
        have hd : decide (4611686018427387904 < K + x) = true := decide_eq_true hov
        go_wp2_with fail
        go_ret2
        first
          | exact ⟨rfl, Kep.of_bel (B0.out.trans BT.out)⟩
          | exact ⟨rfl, Kep.of_bel (B0.out.trans BT.out), fun h => absurd h (by decide)⟩
      obtain rfl : E = 0 := HW3.out.2.2 (by first | rfl | trivial) (by omega)
      have hd : decide (4611686018427387904 < K + x) = false := decide_eq_false hov
      go_upto_region 11 with fail
      refine wp_region_held_drew (S := fun V => Kep (fun b => b = p ∨ (Value.slice A1 n1 c1).ownBlock = some b ∨ (Value.slice A2 n2 c2).ownBlock = some b) V3 V) (by kernel_rfl) (Kep.drew (Kep.refl _ _)) (fun hS0 => ?_)
      have HD := Lib.hid (show Bel V3 V3.drew from (Bel.refl _).drew)
      obtain ⟨w7, hw7⟩ : ∃ w7, World.drew V3 = w7 := ⟨_, rfl⟩
      rw [hw7] at hS0 HD ⊢
      clear hw7 hd hov hwr
      have HV := Lib.hid (H.out.bel BT.out)
      have SV := Lib.hid (S0.out.bel BT.out)
      have NS := Lib.hid (HV.out.not_in SV.out (by decide) (by decide) (by decide))
      have NP := Lib.hid (HV.out.not_in PT.out (by decide) (by decide) (by decide))
      have hws : IntKind.u64.wrap (s + N2) = s + N2 := IntWalk.u64_in _ ⟨by have := HP2.out; omega, by have := HP2.out; omega⟩
      refine ztk 0 { dst := some 56, op := .move (.tmp 0), type := 152, pos := "book.go:43", after := #[], guard := none } (.pointer (some ⟨p, 0, none⟩)) (Or.inl ⟨by rfl, by intro w hSw; clear hSw; go_simp⟩) hS0 ?_
      try simp only [Act.put, zq1, zq2, zq3]
      refine ztk 1 { dst := some 57, op := .move (.tmp 1), type := 3, pos := "book.go:43", after := #[], guard := none } (.int .i64 o) (Or.inl ⟨by rfl, by intro w hSw; clear hSw; go_simp⟩) hS0 ?_
      try simp only [Act.put, zq1, zq2, zq3]
      refine ztk 2 { dst := some 58, op := .load 37 (.tmp 6), type := 37, pos := "book.go:43", after := #[], guard := none } (.agg #[.int .i64 a, .int .i64 b, .int .i64 d, .int .i64 e]) (yieldsIf_load_mid (by rfl) _ _ rfl _ _ rfl _ _ (fun w h => rngB (C := [.int .i64 a, .int .i64 b, .int .i64 d, .int .i64 e]) (SV.out.kep h NS.out)) Tryz.underlying37 rfl info_s) hS0 ?_
      try simp only [Act.put, zq1, zq2, zq3]
      refine ztk 3 { dst := some 59, op := .load 46 (.tmp 11), type := 46, pos := "book.go:43", after := #[], guard := none } (.agg #[.int .u64 T2, .int .u64 S2]) (yieldsIf_load_mid (by rfl) _ _ rfl _ _ rfl _ _ (fun w h => rngB (C := [.int .u64 T2, .int .u64 S2]) (PT.out.kep h NP.out)) Tryz.underlying46 rfl info_q) hS0 ?_
      try simp only [Act.put, zq1, zq2, zq3]
      refine ztk 4 { dst := some 60, op := .move (.tmp 0), type := 152, pos := "book.go:43", after := #[], guard := none } (.pointer (some ⟨p, 0, none⟩)) (Or.inl ⟨by rfl, by intro w hSw; clear hSw; go_simp⟩) hS0 ?_
      try simp only [Act.put, zq1, zq2, zq3]
      refine ztk 5 { dst := some 61, op := Op.nilCheck (.tmp 60), type := 0, pos := "book.go:43", after := #[{ on := 4, ground := .data }], guard := none } (.pointer (some ⟨p, 0, none⟩)) (Or.inl ⟨by rfl, by intro w hSw; clear hSw; go_simp⟩) hS0 ?_
      try simp only [Act.put, zq1, zq2, zq3]
      refine ztk 7 { dst := some 63, op := .move (.tmp 1), type := 3, pos := "book.go:43", after := #[], guard := none } (.int .i64 o) (Or.inl ⟨by rfl, by intro w hSw; clear hSw; go_simp⟩) hS0 ?_
      try simp only [Act.put, zq1, zq2, zq3]
      refine ztk 8 { dst := some 64, op := .load 37 (.tmp 6), type := 37, pos := "book.go:43", after := #[], guard := none } (.agg #[.int .i64 a, .int .i64 b, .int .i64 d, .int .i64 e]) (yieldsIf_load_mid (by rfl) _ _ rfl _ _ rfl _ _ (fun w h => rngB (C := [.int .i64 a, .int .i64 b, .int .i64 d, .int .i64 e]) (SV.out.kep h NS.out)) Tryz.underlying37 rfl info_s) hS0 ?_
      try simp only [Act.put, zq1, zq2, zq3]
      refine ztk 10 { dst := some 66, op := .move (.tmp 12), type := 32, pos := "book.go:43", after := #[], guard := none } (.int .u64 N2) (Or.inl ⟨by rfl, by intro w hSw; clear hSw; go_simp⟩) hS0 ?_
      try simp only [Act.put, zq1, zq2, zq3]
      refine wpAnyH_ready (rs := [6]) (by kernel_rfl) (by simp) ?_
      refine AllReadyH.cons (o := { dst := some 62, op := .load 210 (.tmp 61), type := 210, pos := "book.go:43", after := #[{ on := 5, ground := .data }], guard := none }) rfl (fun K hK => ?_) AllReadyH.nil
      have b0 := (HV.out.blk.bel HD.out).cell 0 rfl
      have b1 := (HV.out.blk.bel HD.out).cell 1 rfl
      go_simp
      refine hK.out _ _ (hS0) (fun hS1 => ?_)
      clear hK K
      try simp only [Act.put, zq1, zq2, zq3]
      refine wpAnyH_ready (rs := [9]) (by kernel_rfl) (by simp) ?_
      refine AllReadyH.cons (o := { dst := some 65, op := .call { callee := .value (.func 74), args := #[.tmp 62, .tmp 63, .tmp 64], argTypes := #[25, 3, 37] }, type := 32, pos := "book.go:43", after := #[{ on := 6, ground := .data }, { on := 7, ground := .data }, { on := 8, ground := .data }], guard := none }) rfl (fun K hK => ?_) AllReadyH.nil
      go_simp
      refine (SO.out _ (B0.out.trans (BT.out.trans HD.out))).mono ?_
      rintro e v2 ⟨rfl, kb⟩
      go_wp2_with fail
      refine hK.out _ _ (hS1.trans (Kep.of_bel kb)) (fun hS2 => ?_)
      clear hK K
      try simp only [Act.put, zq1, zq2, zq3]
      refine ztk 11 { dst := some 67, op := .binOp .add 32 (.tmp 65) (.tmp 66) 32, type := 32, pos := "book.go:43", after := #[{ on := 9, ground := .data }, { on := 10, ground := .data }], guard := none } (.int .u64 (s + N2)) (Or.inl ⟨by rfl, by intro w hSw; clear hSw; go_simp⟩) hS2 ?_
      try simp only [Act.put, zq1, zq2, zq3]
      refine wpAnyH_ready (rs := [12]) (by kernel_rfl) (by simp) ?_
      refine AllReadyH.cons (o := { dst := some 68, op := .call { callee := .value (.func 177), args := #[.tmp 56, .tmp 57, .tmp 58, .tmp 59, .tmp 67], argTypes := #[152, 3, 37, 46, 32] }, type := 0, pos := "book.go:43", after := #[{ on := 0, ground := .data }, { on := 1, ground := .data }, { on := 2, ground := .data }, { on := 3, ground := .data }, { on := 11, ground := .data }, { on := 9, ground := .chain }], guard := none }) rfl (fun K hK => ?_) AllReadyH.nil
      go_simp
      refine (ST.out _ (HV.out.bel (HD.out.trans kb)) (Nat.le_trans HBS.out (Below.size (BT.out.trans (HD.out.trans kb)))) T2 S2 (s + N2) HP2.out.2.1 (by have := HP2.out; omega)).mono ?_
      rintro e v3 ⟨rfl, l1, l2, hbk, hkz⟩
      go_wp2_with fail
      refine hK.out _ _ (hS2.trans hkz) (fun hS3 => ?_)
      clear hK K
      try simp only [Act.put, zq1, zq2, zq3]
      refine wpAnyH_done (by kernel_rfl) ?_ _
      have HBK := Lib.hid hbk
      have HKK := Lib.hid hS3
      clear hbk hkz kb hws b0 b1
      go_wp2_with fail
      go_ret2
      first
        | exact ⟨rfl, (Kep.of_bel (B0.out.trans BT.out)).trans HKK.out, fun _ => ⟨_, _, HBK.out⟩⟩
        | exact ⟨rfl, (Kep.of_bel (B0.out.trans BT.out)).trans HKK.out, ⟨_, _, HBK.out⟩⟩
  · go_simp
    refine hK.out _ _ (hS0.alloc _) (fun hS1 => ?_)
    clear hK K
    try simp only [Act.put, zq1, zq2, zq3]
    have glb := Blk.new w6 #[.int .u64 0, .int .u64 0] 46
    have gll := Lib.hid (Below.size hS0)
    generalize hvq : World.alloc w6 (Obj.cells #[.int .u64 0, .int .u64 0] 46) = v1 at glb hS1 ⊢
    have glk : Bel w6 v1 := by rw [← hvq]; exact (Bel.refl _).alloc _
    clear hvq
    obtain ⟨gl, hgq⟩ : ∃ g, (World.heap w6).size = g := ⟨_, rfl⟩
    rw [hgq] at glb gll ⊢
    clear hgq
    have glb := Lib.hid glb
    refine wpAnyH_ready (rs := [4]) (by kernel_rfl) (by simp) ?_
    refine AllReadyH.cons (o := { dst := some 26, op := .call { callee := .value (.func 76), args := #[.tmp 24, .tmp 25], argTypes := #[25, 37] }, type := 46, pos := "book.go:31", after := #[{ on := 2, ground := .data }, { on := 3, ground := .data }], guard := none }) rfl (fun K hK => ?_) AllReadyH.nil
    go_simp
    refine (PO.out _ (B0.out.trans (BC.out.trans hS1))).mono ?_
    rintro e v2 ⟨rfl, kb⟩
    go_wp2_with fail
    refine hK.out _ _ (hS1.trans kb) (fun hS2 => ?_)
    clear hK K
    try simp only [Act.put, zq1, zq2, zq3]
    refine wpAnyH_ready (rs := [6]) (by kernel_rfl) (by simp) ?_
    refine AllReadyH.cons (o := { dst := none, op := .store 46 (.tmp 10) (.tmp 26), type := 0, pos := "book.go:31", after := #[{ on := 5, ground := .data }, { on := 4, ground := .data }, { on := 4, ground := .chain }, { on := 0, ground := .phase }, { on := 1, ground := .phase }, { on := 2, ground := .phase }, { on := 3, ground := .phase }, { on := 4, ground := .phase }, { on := 5, ground := .phase }], guard := none }) rfl (fun K hK => ?_) AllReadyH.nil
    have QB : Blk v2 gl #[.int .u64 0, .int .u64 0] 46 := by first | exact glb.out | exact glb.out.bel kb
    have q0 := QB.cell 0 rfl
    have q1 := QB.cell 1 rfl
    have qf0 := QB.frozen 0
    have qf1 := QB.frozen 1
    go_simp
    refine hK.out _ _ ((hS2.set (p := ⟨gl, 0, none⟩) gll.out _).set (p := ⟨gl, 1, none⟩) gll.out _) (fun hS3 => ?_)
    clear hK K
    try simp only [Act.put, zq1, zq2, zq3]
    refine wpAnyH_done (by kernel_rfl) ?_ _
    have HE := Lib.hid hS3
    have hqn : Blk ((v2.setCell ⟨gl, 0, none⟩ (.int .u64 T)).setCell ⟨gl, 1, none⟩ (.int .u64 S)) gl #[.int .u64 T, .int .u64 S] 46 := (QB.set 0 _).set 1 _
    have QN := Lib.hid hqn
    obtain ⟨Y, hY⟩ : ∃ Y, (v2.setCell ⟨gl, 0, none⟩ (.int .u64 T)).setCell ⟨gl, 1, none⟩ (.int .u64 S) = Y := ⟨_, rfl⟩
    rw [hY] at HE QN ⊢
    have BY := Lib.hid (BC.out.trans HE.out)
    clear hY hqn QB q0 q1 qf0 qf1 hS0 hS1 hS2 hS3 kb HE
    have d0 := QN.out.cell 0 rfl
    have d1 := QN.out.cell 1 rfl
    have b0 := (H.out.blk.bel BY.out).cell 0 rfl
    have HFULL := Lib.hid (kill_ways T S)
    by_cases hfull : (T = 0 ∧ S = 0) ∧ n1 = 1024
    · obtain rfl : E = 7 := HW2.out.1 hfull
      obtain ⟨⟨rfl, rfl⟩, rfl⟩ := hfull
      go_wp2_with fail
      go_ret2
      first
        | exact ⟨rfl, Kep.of_bel (B0.out.trans BY.out)⟩
        | exact ⟨rfl, Kep.of_bel (B0.out.trans BY.out), fun h => absurd h (by decide)⟩
    have HW3 := Lib.hid (HW2.out.2 hfull)
    have hff : (T = 0 ∧ S = 0 ∧ ¬ n1 = 1024) ∨ (¬ T = 0) ∨ (T = 0 ∧ ¬ S = 0) := by omega
    have hnx : n1 = 1024 ∨ ((n1 : Int) == 1024) = false := by
      by_cases h : n1 = 1024
      · exact .inl h
      · exact .inr (by rw [beq_eq_false_iff_ne]; omega)
    clear hfull HW2 HFULL
    rcases hff with ⟨hT, hS3, hn9⟩ | hT | ⟨hT, hS3⟩
    case' inl =>
      have hnx2 := hnx.resolve_left hn9
      subst hT hS3
    case' inr.inr => subst hT
    all_goals
      clear hnx
      go_wp2_with fail
      refine (JN.out _).mono ?_
      rintro r V2 ⟨rfl, kb⟩
      have BJ := Lib.hid (BY.out.trans kb)
      clear kb d0 d1 b0
      go_upto_region 7 with fail
      obtain ⟨Z, hZ⟩ : ∃ Z, V2.alloc (.cells #[.int .u64 T2, .int .u64 S2] 46) = Z := ⟨_, rfl⟩
      have BZ := Lib.hid (show Bel W Z by rw [← hZ]; exact BJ.out.alloc _)
      have PZ := Lib.hid (show Blk Z V2.heap.size #[.int .u64 T2, .int .u64 S2] 46 by rw [← hZ]; exact Blk.new _ _ _)
      rw [hZ]
      obtain ⟨gz, hgz⟩ : ∃ g, V2.heap.size = g := ⟨_, rfl⟩
      rw [hgz] at PZ ⊢
      clear hZ hgz
      by_cases hE2 : E2 = 0
      case neg =>
        obtain rfl : E = E2 := HW3.out.1 hE2
        have hne : (E != 0) = true := by rw [bne_iff_ne]; exact hE2
        go_wp2_with fail
        go_ret2
        first
          | exact ⟨rfl, Kep.of_bel (B0.out.trans BZ.out)⟩
          | exact ⟨rfl, Kep.of_bel (B0.out.trans BZ.out), fun h => absurd h hE2⟩
          | exact ⟨by rw [if_neg hE2], Kep.of_bel (B0.out.trans BZ.out), fun h => absurd h hE2⟩
      subst hE2
      have HP2 := Lib.hid (HPP.out (by first | rfl | trivial))
      have b0 := (H.out.blk.bel BZ.out).cell 0 rfl
      go_upto_region 9 with fail
      go_wp2_with fail
      refine (TO.out _ (B0.out.trans BZ.out)).mono ?_
      rintro r V3 ⟨rfl, kb⟩
      have BT := Lib.hid (BZ.out.trans kb)
      have PT := Lib.hid (PZ.out.bel kb)
      have hwr : IntKind.u64.wrap (K + x) = K + x := IntWalk.u64_in _ ⟨by have := HTS.out; omega, by have := HTO.out; have := HP2.out; omega⟩
      clear kb b0
      by_cases hov : 4611686018427387904 < K + x
      · obtain rfl : E = 12 := HW3.out.2.1 (by first | rfl | trivial) (by omega)
        have hd : decide (4611686018427387904 < K + x) = true := decide_eq_true hov
        go_wp2_with fail
        go_ret2
        first
          | exact ⟨rfl, Kep.of_bel (B0.out.trans BT.out)⟩
          | exact ⟨rfl, Kep.of_bel (B0.out.trans BT.out), fun h => absurd h (by decide)⟩
      obtain rfl : E = 0 := HW3.out.2.2 (by first | rfl | trivial) (by omega)
      have hd : decide (4611686018427387904 < K + x) = false := decide_eq_false hov
      go_upto_region 11 with fail
      refine wp_region_held_drew (S := fun V => Kep (fun b => b = p ∨ (Value.slice A1 n1 c1).ownBlock = some b ∨ (Value.slice A2 n2 c2).ownBlock = some b) V3 V) (by kernel_rfl) (Kep.drew (Kep.refl _ _)) (fun hS0 => ?_)
      have HD := Lib.hid (show Bel V3 V3.drew from (Bel.refl _).drew)
      obtain ⟨w7, hw7⟩ : ∃ w7, World.drew V3 = w7 := ⟨_, rfl⟩
      rw [hw7] at hS0 HD ⊢
      clear hw7 hd hov hwr
      have HV := Lib.hid (H.out.bel BT.out)
      have SV := Lib.hid (S0.out.bel BT.out)
      have NS := Lib.hid (HV.out.not_in SV.out (by decide) (by decide) (by decide))
      have NP := Lib.hid (HV.out.not_in PT.out (by decide) (by decide) (by decide))
      have hws : IntKind.u64.wrap (s + N2) = s + N2 := IntWalk.u64_in _ ⟨by have := HP2.out; omega, by have := HP2.out; omega⟩
      refine ztk 0 { dst := some 56, op := .move (.tmp 0), type := 152, pos := "book.go:43", after := #[], guard := none } (.pointer (some ⟨p, 0, none⟩)) (Or.inl ⟨by rfl, by intro w hSw; clear hSw; go_simp⟩) hS0 ?_
      try simp only [Act.put, zq1, zq2, zq3]
      refine ztk 1 { dst := some 57, op := .move (.tmp 1), type := 3, pos := "book.go:43", after := #[], guard := none } (.int .i64 o) (Or.inl ⟨by rfl, by intro w hSw; clear hSw; go_simp⟩) hS0 ?_
      try simp only [Act.put, zq1, zq2, zq3]
      refine ztk 2 { dst := some 58, op := .load 37 (.tmp 6), type := 37, pos := "book.go:43", after := #[], guard := none } (.agg #[.int .i64 a, .int .i64 b, .int .i64 d, .int .i64 e]) (yieldsIf_load_mid (by rfl) _ _ rfl _ _ rfl _ _ (fun w h => rngB (C := [.int .i64 a, .int .i64 b, .int .i64 d, .int .i64 e]) (SV.out.kep h NS.out)) Tryz.underlying37 rfl info_s) hS0 ?_
      try simp only [Act.put, zq1, zq2, zq3]
      refine ztk 3 { dst := some 59, op := .load 46 (.tmp 11), type := 46, pos := "book.go:43", after := #[], guard := none } (.agg #[.int .u64 T2, .int .u64 S2]) (yieldsIf_load_mid (by rfl) _ _ rfl _ _ rfl _ _ (fun w h => rngB (C := [.int .u64 T2, .int .u64 S2]) (PT.out.kep h NP.out)) Tryz.underlying46 rfl info_q) hS0 ?_
      try simp only [Act.put, zq1, zq2, zq3]
      refine ztk 4 { dst := some 60, op := .move (.tmp 0), type := 152, pos := "book.go:43", after := #[], guard := none } (.pointer (some ⟨p, 0, none⟩)) (Or.inl ⟨by rfl, by intro w hSw; clear hSw; go_simp⟩) hS0 ?_
      try simp only [Act.put, zq1, zq2, zq3]
      refine ztk 5 { dst := some 61, op := Op.nilCheck (.tmp 60), type := 0, pos := "book.go:43", after := #[{ on := 4, ground := .data }], guard := none } (.pointer (some ⟨p, 0, none⟩)) (Or.inl ⟨by rfl, by intro w hSw; clear hSw; go_simp⟩) hS0 ?_
      try simp only [Act.put, zq1, zq2, zq3]
      refine ztk 7 { dst := some 63, op := .move (.tmp 1), type := 3, pos := "book.go:43", after := #[], guard := none } (.int .i64 o) (Or.inl ⟨by rfl, by intro w hSw; clear hSw; go_simp⟩) hS0 ?_
      try simp only [Act.put, zq1, zq2, zq3]
      refine ztk 8 { dst := some 64, op := .load 37 (.tmp 6), type := 37, pos := "book.go:43", after := #[], guard := none } (.agg #[.int .i64 a, .int .i64 b, .int .i64 d, .int .i64 e]) (yieldsIf_load_mid (by rfl) _ _ rfl _ _ rfl _ _ (fun w h => rngB (C := [.int .i64 a, .int .i64 b, .int .i64 d, .int .i64 e]) (SV.out.kep h NS.out)) Tryz.underlying37 rfl info_s) hS0 ?_
      try simp only [Act.put, zq1, zq2, zq3]
      refine ztk 10 { dst := some 66, op := .move (.tmp 12), type := 32, pos := "book.go:43", after := #[], guard := none } (.int .u64 N2) (Or.inl ⟨by rfl, by intro w hSw; clear hSw; go_simp⟩) hS0 ?_
      try simp only [Act.put, zq1, zq2, zq3]
      refine wpAnyH_ready (rs := [6]) (by kernel_rfl) (by simp) ?_
      refine AllReadyH.cons (o := { dst := some 62, op := .load 210 (.tmp 61), type := 210, pos := "book.go:43", after := #[{ on := 5, ground := .data }], guard := none }) rfl (fun K hK => ?_) AllReadyH.nil
      have b0 := (HV.out.blk.bel HD.out).cell 0 rfl
      have b1 := (HV.out.blk.bel HD.out).cell 1 rfl
      go_simp
      refine hK.out _ _ (hS0) (fun hS1 => ?_)
      clear hK K
      try simp only [Act.put, zq1, zq2, zq3]
      refine wpAnyH_ready (rs := [9]) (by kernel_rfl) (by simp) ?_
      refine AllReadyH.cons (o := { dst := some 65, op := .call { callee := .value (.func 74), args := #[.tmp 62, .tmp 63, .tmp 64], argTypes := #[25, 3, 37] }, type := 32, pos := "book.go:43", after := #[{ on := 6, ground := .data }, { on := 7, ground := .data }, { on := 8, ground := .data }], guard := none }) rfl (fun K hK => ?_) AllReadyH.nil
      go_simp
      refine (SO.out _ (B0.out.trans (BT.out.trans HD.out))).mono ?_
      rintro e v2 ⟨rfl, kb⟩
      go_wp2_with fail
      refine hK.out _ _ (hS1.trans (Kep.of_bel kb)) (fun hS2 => ?_)
      clear hK K
      try simp only [Act.put, zq1, zq2, zq3]
      refine ztk 11 { dst := some 67, op := .binOp .add 32 (.tmp 65) (.tmp 66) 32, type := 32, pos := "book.go:43", after := #[{ on := 9, ground := .data }, { on := 10, ground := .data }], guard := none } (.int .u64 (s + N2)) (Or.inl ⟨by rfl, by intro w hSw; clear hSw; go_simp⟩) hS2 ?_
      try simp only [Act.put, zq1, zq2, zq3]
      refine wpAnyH_ready (rs := [12]) (by kernel_rfl) (by simp) ?_
      refine AllReadyH.cons (o := { dst := some 68, op := .call { callee := .value (.func 177), args := #[.tmp 56, .tmp 57, .tmp 58, .tmp 59, .tmp 67], argTypes := #[152, 3, 37, 46, 32] }, type := 0, pos := "book.go:43", after := #[{ on := 0, ground := .data }, { on := 1, ground := .data }, { on := 2, ground := .data }, { on := 3, ground := .data }, { on := 11, ground := .data }, { on := 9, ground := .chain }], guard := none }) rfl (fun K hK => ?_) AllReadyH.nil
      go_simp
      refine (ST.out _ (HV.out.bel (HD.out.trans kb)) (Nat.le_trans HBS.out (Below.size (BT.out.trans (HD.out.trans kb)))) T2 S2 (s + N2) HP2.out.2.1 (by have := HP2.out; omega)).mono ?_
      rintro e v3 ⟨rfl, l1, l2, hbk, hkz⟩
      go_wp2_with fail
      refine hK.out _ _ (hS2.trans hkz) (fun hS3 => ?_)
      clear hK K
      try simp only [Act.put, zq1, zq2, zq3]
      refine wpAnyH_done (by kernel_rfl) ?_ _
      have HBK := Lib.hid hbk
      have HKK := Lib.hid hS3
      clear hbk hkz kb hws b0 b1
      go_wp2_with fail
      go_ret2
      first
        | exact ⟨rfl, (Kep.of_bel (B0.out.trans BT.out)).trans HKK.out, fun _ => ⟨_, _, HBK.out⟩⟩
        | exact ⟨rfl, (Kep.of_bel (B0.out.trans BT.out)).trans HKK.out, ⟨_, _, HBK.out⟩⟩
end Ho
end Go.Proofs.YtneajcoiemkfbaaGreat
end
