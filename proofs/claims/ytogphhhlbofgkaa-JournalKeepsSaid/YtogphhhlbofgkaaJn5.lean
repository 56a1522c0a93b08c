/-
  A journal's open: one level more. Conditions: the journal lies in memory as JX says; at most 64 levels are open.
-/
import Derived.Test.YtogphhhlbofgkaaJn4
import Derived.Deep.RegionLaw
namespace Go.Proofs.Ytogphhhlbofgkaa
open Go.RowKit Go.Shelf Go.Maps
set_option linter.unusedVariables false
namespace Jn
open Kk Pm Bk

theorem info_lev : (Try.prog.info? 96).map (fun i => (i.zero, i.size, i.bytes)) = some (some (.agg #[.pointer none, .map none]), 2, 16) := by kernel_rfl

theorem run_append_lev {w : World} {v : Value} {rs : List (Option Addr × Nat)} (h : LRow w v rs) (ty : TypeId) (a : Addr) (c : Nat) (p : Option Addr) (mb : Nat) (h0 : w.cell? (a.add 0) = some (.pointer p)) (h1 : w.cell? (a.add 1) = some (.map (some mb))) (hm : rs.length ≤ 1000) :
    ∃ v' w', (Builtin.append_ #[47, 47] ty #[v, .slice (some a) 1 c]).run Try.prog w = .ok v' w' ∧ LRow w' v' ((p, mb) :: rs) ∧ w.grownBy w' v.ownBlock ∧ (v'.ownBlock = v.ownBlock ∨ v'.ownBlock = some w.heap.size) ∧ (∃ g cp, v' = .slice (some ⟨g, 0, none⟩) (rs.length + 1) cp) ∧ LRow w' v rs := by
  have H := h
  obtain ⟨i0, hi, hz0, hz1, hz2⟩ := info_parts info_lev
  have ht := Try.underlying47
  have hnews : ∀ j u, [Value.pointer p, .map (some mb)][j]? = some u → w.cell? (a.add j) = some u := by
    intro j u hj
    match j, hj with
    | 0, hj => simp at hj; subst hj; exact h0
    | 1, hj => simp at hj; subst hj; exact h1
  have hone : ∀ u ∈ [Value.pointer p, .map (some mb)], u.oneCell' = true := by
    intro u hu
    rcases List.mem_cons.1 hu with rfl | hu
    · rfl
    · rcases List.mem_cons.1 hu with rfl | hu
      · rfl
      · cases hu
  have hl2 : [Value.pointer p, .map (some mb)].length = 1 * i0.size := by rw [hz1]; rfl
  have hlen := lc_len rs
  have hlx : (lc rs ++ [Value.pointer p, .map (some mb)]).length = (rs.length + 1) * 2 := by rw [List.length_append, hlen]; simp; omega
  have ml : (1001 : Nat) ≤ maxLen := by unfold maxLen; omega
  -- what a new row holds
  have grown : ∀ (old : Nat), LRow (w.drew.alloc (.cells ((lc rs).toArray ++ #[Value.pointer p, .map (some mb)] ++ Builtin.zeroCells (Value.agg #[.pointer none, .map none]).cells (grownCap w (rs.length + 1) old 96 - (rs.length + 1))) 96))
      (.slice (some ⟨w.heap.size, 0, none⟩) (rs.length + 1) (grownCap w (rs.length + 1) old 96)) ((p, mb) :: rs) := by
    intro old
    have hge := grownCap_ge w (rs.length + 1) old 96
    have hcm : grownCap w (rs.length + 1) old 96 ≤ maxLen := grownCap_le_maxLen w _ old _ (by omega)
    refine .inr ⟨w.heap.size, _, _, rfl, heap_alloc_new w.drew _, hge, hcm, ?_, ?_⟩
    · have : (Value.agg #[Value.pointer none, .map none]).cells.size = 2 := rfl
      simp only [Array.size_append, List.size_toArray, size_zeroCells, this, hlen]
      show _ ≤ rs.length * 2 + 2 + _
      omega
    · simp only [Array.toList_append, List.append_assoc]
      rw [← List.append_assoc]
      show List.take ((rs.length + 1) * 2) ((lc rs ++ [Value.pointer p, .map (some mb)]) ++ _) = _
      rw [← hlx]
      exact List.take_left
  have gb : ∀ (o : Obj) (row : Option Nat), w.grownBy (w.drew.alloc o) row := fun o row => ⟨rfl, rfl, rfl, by simp, fun k hk _ => heap_alloc_old w.drew _ hk⟩
  have old : ∀ o, LRow (w.drew.alloc o) v rs := fun o => H.keep (S := fun _ => False) (Kep.of_bel ((Bel.refl w).drew.alloc o)) (fun _ _ => id)
  rcases h with ⟨rfl, rfl⟩ | ⟨g, cap, cur, rfl, hg, hnc, hcm, hcs, htake⟩
  · have hr := run_append_nil (P := Try.prog) w 47 ty 96 i0 _ ht hi hz0 a 1 c [.pointer p, .map (some mb)] hl2 hnews (by omega) (by omega) (by rw [hz2]; omega)
    refine ⟨_, _, hr, ?_, gb _ _, .inr rfl, ⟨_, _, rfl⟩, old _⟩
    have := grown 0
    simp only [lc, List.length_nil, Nat.zero_add] at this
    simpa using this
  · by_cases hroom : rs.length + 1 ≤ cap
    · have hr := run_append_room (P := Try.prog) w 47 ty 96 i0 ht hi g rs.length cap cur hg a 1 c [.pointer p, .map (some mb)] hl2 hnews hone hroom (by rw [hz1]; simp; omega)
      refine ⟨_, _, hr, .inr ⟨g, cap, _, rfl, setRow_heap w g cur _ _ _ hg, hroom, hcm, ?_, ?_⟩, ⟨rfl, rfl, rfl, by simp, fun k _ hk => setRow_other w g k _ (fun e => hk (by simp [Value.ownBlock, e]))⟩, .inl rfl, ⟨_, _, rfl⟩, .inr ⟨g, cap, _, rfl, setRow_heap w g cur _ _ _ hg, hnc, hcm, ?_, ?_⟩⟩
      · rw [hz1]
        simp only [List.size_toArray, List.length_append, List.length_take, List.length_drop, Array.length_toList, List.length_cons, List.length_nil]
        omega
      · rw [hz1, htake]
        show List.take ((rs.length + 1) * 2) ((lc rs ++ [Value.pointer p, .map (some mb)]) ++ _) = _
        rw [← hlx]
        exact List.take_left
      · rw [hz1]
        simp only [List.size_toArray, List.length_append, List.length_take, List.length_drop, Array.length_toList, List.length_cons, List.length_nil]
        omega
      · rw [hz1, htake, List.append_assoc]
        show List.take (rs.length * 2) (lc rs ++ _) = _
        rw [← hlen]
        exact List.take_left
    · have holds : ∀ j u, (lc rs)[j]? = some u → w.cell? ((⟨g, 0, none⟩ : Addr).add j) = some u := by
        intro j u hj
        have hb : Blk w g cur 96 := hg
        have e : (⟨g, 0, none⟩ : Addr).add j = ⟨g, j, none⟩ := by
          unfold Addr.add
          by_cases h0 : j = 0
          · simp [h0]
          · simp [h0]
        rw [e]
        refine hb.cell j ?_
        rw [← htake, List.getElem?_take] at hj
        split at hj
        · rwa [Array.getElem?_toList] at hj
        · cases hj
      have hr := run_append_grow (P := Try.prog) w 47 ty 96 i0 _ ht hi hz0 ⟨g, 0, none⟩ rs.length cap (lc rs) (by rw [hz1, hlen]) holds a 1 c [.pointer p, .map (some mb)] hl2 hnews (by omega) (by omega) (growslice_fits (by omega) (by rw [hz2]; omega))
      exact ⟨_, _, hr, grown cap, gb _ _, .inr rfl, ⟨_, _, rfl⟩, old _⟩

theorem step_append_lev {w : World} {ops : Array Oper} {o : Oper} {a : Act} {K : Act → World → Prop} {Q : Exit → Act → World → Prop} {E : Prop} (hgd : o.guard = none) (s x : Operand)
    (ho : o.op = .call { callee := .builtin .append, args := #[s, x], argTypes := #[47, 47] })
    (v : Value) (rs : List (Option Addr × Nat)) (hs : a.eval s = v) (hown : LRow w v rs) (ad : Addr) (c : Nat) (hx : a.eval x = .slice (some ad) 1 c) (p : Option Addr) (mb : Nat) (h0 : w.cell? (ad.add 0) = some (.pointer p)) (h1 : w.cell? (ad.add 1) = some (.map (some mb))) (hm : rs.length ≤ 1000)
    (h : ∀ v' w', LRow w' v' ((p, mb) :: rs) → w.grownBy w' v.ownBlock → (v'.ownBlock = v.ownBlock ∨ v'.ownBlock = some w.heap.size) → (∃ g cp, v' = .slice (some ⟨g, 0, none⟩) (rs.length + 1) cp) → LRow w' v rs → K (a.put o.dst v') w') :
    if Region.wanted o (yielded ops a.tmps) = true then Oper.wp Try.prog o a w K Q else E := by
  rw [if_pos (by simp [Region.wanted, hgd])]
  obtain ⟨v', w', hr, h2, h3, h4, h5, h6⟩ := run_append_lev hown o.type ad c p mb h0 h1 hm
  unfold Oper.wp execOp
  simp only [ho, resolve, invoke, builtin, Sem.run_bind, Sem.run_pure, Result.andThen_ok, List.map_toArray, List.map_cons, List.map_nil, hs, hx, hr]
  exact h v' w' h2 h3 h4 h5 h6

theorem cell_two_new (w : World) (x y : Value) (t : TypeId) : (w.alloc (.cells #[x, y] t)).cell? ((⟨w.heap.size, 0, none⟩ : Addr).add 0) = some x ∧ (w.alloc (.cells #[x, y] t)).cell? ((⟨w.heap.size, 0, none⟩ : Addr).add 1) = some y := by
  refine ⟨?_, ?_⟩
  · simp [Addr.add]
  · simp [Addr.add]
section
variable {w w1 : World} {M I : Nat → Prop} {pj : Nat} {zs : List Int} {ls : List (List Ch)} {cb cap : Nat} {nw : Option Addr} {v v1 : Value} {rs : List (Option Addr × Nat)}
/-- One level more, its map in the block mb, its row where the append has laid it. -/
theorem JX.opened {mb : Nat} {W : World} (h : JX w M I pj zs ls cb cap nw v rs) (hW : Bel w W) (hm : TMap W mb zs.length (fun _ => false)) (hmb : w.heap.size ≤ mb) (hr : LRow w1 v1 ((nw, mb) :: rs)) (hg : W.grownBy w1 v.ownBlock)
    (ho : v1.ownBlock = v.ownBlock ∨ v1.ownBlock = some W.heap.size) (hd : ls.length ≤ 64) :
    JX (w1.setCell ⟨pj, 3, none⟩ v1) (fun b => M b ∨ b = mb ∨ v1.ownBlock = some b) I pj zs ([] :: ls) cb cap nw v1 ((nw, mb) :: rs) ∧ Step w (w1.setCell ⟨pj, 3, none⟩ v1) M I (fun b => M b ∨ b = mb ∨ v1.ownBlock = some b) I := by
  have hvj : ∀ g, v.ownBlock = some g → g ≠ pj := fun g e e2 => by
    obtain ⟨cur, h1⟩ := h.lev.blk e
    rw [e2] at h1
    have := (show w.heap[pj]? = _ from h1).symm.trans h.blk
    cases this
  have hvm : ∀ g, v.ownBlock = some g → g < w.heap.size := fun g e => h.inM g (h.ml g e)
  have KW : Kep (fun b => v.ownBlock = some b) w w1 := Kep.grown (Kep.of_bel hW) hg (fun k e _ => e)
  have K3' : Kep (fun b => b = pj) w1 (w1.setCell ⟨pj, 3, none⟩ v1) := Kep.set_self (Kep.refl _ _) _ _
  have K3 : Kep (fun b => b = pj ∨ v.ownBlock = some b) w (w1.setCell ⟨pj, 3, none⟩ v1) := (KW.mono fun b _ e => .inr e).trans (K3'.mono fun b _ e => .inl e)
  have B1 : Blk w1 pj (jc pj cb zs.length cap nw v) 49 := h.blk.kep KW (fun e => hvj _ e rfl)
  have hsz : w1.heap.size ≤ (w1.setCell ⟨pj, 3, none⟩ v1).heap.size := K3'.size
  have hIk : ∀ b, I b → ¬ (b = pj ∨ v.ownBlock = some b) := by
    rintro b hb (rfl | e)
    · exact h.apart _ h.mj hb
    · exact h.apart _ (h.ml _ e) hb
  have hv1 : ∀ g, v1.ownBlock = some g → M g ∨ w.heap.size ≤ g := fun g e => by
    rcases ho with o | o
    · exact .inl (h.ml g (o ▸ e))
    · rw [o] at e; injection e with e; rw [← e]; exact .inr (Below.size hW)
  have hmbW : mb < W.heap.size := hm.lt
  refine ⟨?_, ⟨K3.mono ?_, ?_, fun b => .inl, fun b => id⟩⟩
  · refine { blk := B1.set 3 v1, row := ?_, lev := ?_, stk := ⟨rfl, ?_, Chs.nil _, ?_⟩, one := ?_, mj := .inl h.mj, mc := .inl h.mc, ml := fun g e => .inr (.inr e), mm := ?_, apart := ?_, inM := ?_, inI := fun b hb => (by obtain ⟨cs, t, h3⟩ := h.inI b hb; exact ⟨cs, t, h3.kep K3 (hIk b hb)⟩), words := h.words, least := h.least, most := h.most, deep := by simp; omega }
    · refine K3.owns (fun k e => ?_) h.row
      obtain rfl : cb = k := by simpa [Value.ownBlock] using e
      rintro (e | e)
      · exact h.cbj e
      · obtain ⟨cur, h1⟩ := h.lev.blk e
        obtain ⟨cur2, h2⟩ := h.cbk
        have := (show w.heap[cb]? = _ from h1).symm.trans h2
        cases this
    · refine hr.keep K3' (fun g e e2 => ?_)
      obtain ⟨cur, h1⟩ := hr.blk e
      rw [e2] at h1
      have := (show w1.heap[pj]? = _ from h1).symm.trans B1
      cases this
    · have e0 : ∀ i, has1 [] i = (fun _ => false) i := fun i => rfl
      refine ((hm.keep (S := fun b => v.ownBlock = some b) (Kep.grown (Kep.refl _ W) hg (fun k e _ => e)) (fun e => ?_)).keep K3' (fun e => ?_)).congr e0
      · have := hvm _ e; omega
      · have := h.blk.lt; omega
    · refine RStack.keep K3 hIk ls (fun r hr2 => ?_) h.stk
      rintro (e | e)
      · exact h.mpj r hr2 e
      · obtain ⟨cur, h1⟩ := h.lev.blk e
        obtain ⟨es, c, h2⟩ := RStack.maps ls h.stk r hr2
        exact not_map h1 h2
    · rw [List.map_cons, List.nodup_cons]
      refine ⟨fun hmem => ?_, h.one⟩
      obtain ⟨r, hr2, e⟩ := List.mem_map.1 hmem
      have := h.inM _ (h.mm r hr2)
      omega
    · intro r hr2
      rcases List.mem_cons.1 hr2 with rfl | hr2
      · exact .inr (.inl rfl)
      · exact .inl (h.mm r hr2)
    · rintro b (hb | rfl | hb) hI
      · exact h.apart b hb hI
      · have := h.ltI _ hI; omega
      · rcases hv1 b hb with e | e
        · exact h.apart b e hI
        · have := h.ltI _ hI; omega
    · rintro b (hb | rfl | hb)
      · exact Nat.lt_of_lt_of_le (h.inM b hb) K3.size
      · exact Nat.lt_of_lt_of_le (Nat.lt_of_lt_of_le hmbW hg.size) hsz
      · obtain ⟨cur, h1⟩ := hr.blk hb
        exact Nat.lt_of_lt_of_le h1.lt hsz
  · rintro b _ (rfl | e)
    · exact h.mj
    · exact h.ml b e
  · rintro b (hb | rfl | hb)
    · exact .inl hb
    · exact .inr hmb
    · exact hv1 b hb
end

/-- The levels' row is as it was, and all but its block. -/
def SO (w : World) (v : Value) (rs : List (Option Addr × Nat)) (W : World) : Prop := LRow W v rs ∧ Kep (fun b => v.ownBlock = some b) w W
theorem SO.alloc {w W : World} {v : Value} {rs : List (Option Addr × Nat)} (h : SO w v rs W) (o : Obj) : SO w v rs (W.alloc o) :=
  ⟨h.1.keep (S := fun _ => False) (Kep.of_bel ((Bel.refl W).alloc o)) (fun _ _ => id), h.2.alloc o⟩
set_option maxRecDepth 100000 in
set_option maxHeartbeats 2000000 in
theorem open_ {w : World} {M I : Nat → Prop} {pj : Nat} {zs : List Int} {ls : List (List Ch)} (h : JW w M I pj zs ls) (hd : ls.length ≤ 64) :
    Calls Try.prog 42 #[.pointer (some ⟨pj, 0, none⟩)] w fun e w' => e = .returned (.tuple #[]) ∧ ∃ M', JW w' M' I pj zs ([] :: ls) ∧ Step w w' M I M' I := by
  obtain ⟨cb, cap, nw, v, rs, h⟩ := h
  have c2 := h.c2
  have c3 := h.c3
  have f3 := h.blk.frozen 3
  have hrl := RStack.len ls h.stk
  obtain ⟨A, c, rfl, hA⟩ := h.vs
  have HX := Lib.hid h
  have hvj : (Value.slice A ls.length c).ownBlock ≠ some pj := fun e => by
    obtain ⟨cur, h1⟩ := h.lev.blk e
    have := (show w.heap[pj]? = _ from h1).symm.trans h.blk
    cases this
  have HC := Lib.hid (show ∀ W, Kep (fun b => (Value.slice A ls.length c).ownBlock = some b) w W → W.cell? ⟨pj, 2, none⟩ = some (.pointer nw) ∧ W.cell? ⟨pj, 3, none⟩ = some (.slice A ls.length c) ∧ W.frozen? ⟨pj, 3, none⟩ = false from
    fun W hW => ⟨(h.blk.kep hW hvj).cell 2 rfl, (h.blk.kep hW hvj).cell 3 rfl, (h.blk.kep hW hvj).frozen 3⟩)
  have hS : SO w (.slice A ls.length c) rs w := ⟨h.lev, Kep.refl _ w⟩
  have dr : ∀ W, SO w (.slice A ls.length c) rs W → SO w (.slice A ls.length c) rs W.drew := fun W hW => ⟨hW.1.keep (S := fun _ => False) (Kep.of_bel ((Bel.refl W).drew)) (fun _ _ => id), hW.2.drew⟩
  have g0 : ∀ W, SO w (.slice A ls.length c) rs W → W.cell? ⟨pj, 2, none⟩ = some (.pointer nw) ∧ W.cell? ⟨pj, 3, none⟩ = some (.slice A ls.length c) ∧ W.frozen? ⟨pj, 3, none⟩ = false := fun W hW => HC.out W hW.2
  have c2a : ∀ o, (w.alloc o).cell? ⟨pj, 2, none⟩ = some (.pointer nw) := fun o => (g0 _ (hS.alloc o)).1
  have c3a : ∀ o, (w.alloc o).cell? ⟨pj, 3, none⟩ = some (.slice A ls.length c) := fun o => (g0 _ (hS.alloc o)).2.1
  have c2b : ∀ o o', ((w.alloc o).alloc o').cell? ⟨pj, 2, none⟩ = some (.pointer nw) := fun o o' => (g0 _ ((hS.alloc o).alloc o')).1
  have c3b : ∀ o o', ((w.alloc o).alloc o').cell? ⟨pj, 3, none⟩ = some (.slice A ls.length c) := fun o o' => (g0 _ ((hS.alloc o).alloc o')).2.1
  have LRB := Lib.hid (show ∀ o o', SO w (.slice A ls.length c) rs (((w.alloc o).alloc o').drew) from fun o o' => dr _ ((hS.alloc o).alloc o'))
  have CT := Lib.hid (show ∀ (x y : Value), (((w.alloc (Obj.map #[] 0)).alloc (Obj.cells #[x, y] 96)).drew).cell? ((⟨w.heap.size + 1, 0, none⟩ : Addr).add 0) = some x ∧ (((w.alloc (Obj.map #[] 0)).alloc (Obj.cells #[x, y] 96)).drew).cell? ((⟨w.heap.size + 1, 0, none⟩ : Addr).add 1) = some y from
    fun x y => by have := cell_two_new (w.alloc (Obj.map #[] 0)) x y 96; rw [World.size_alloc] at this; exact this)
  have hmm := @run_makeMap Try.prog
  clear h hS dr g0
  go_enter Try.func42, Try.ntmps42
  go_region_law (refine step_append_lev rfl _ _ rfl _ rs rfl (LRB.out _ _).1 ⟨_, 0, none⟩ _ rfl _ _ (CT.out _ _).1 (CT.out _ _).2 (by omega) ?_; rintro v1 w1 r1 g1 o1 ⟨g, cp, rfl⟩ r2; have K1 := (LRB.out _ _).2.grown g1 (fun k e _ => e); have c3w := (HC.out _ K1).2.1; have f3w := (HC.out _ K1).2.2; have R1 := Lib.hid r1; have GB1 := Lib.hid g1; have KW1 := Lib.hid K1; clear r1 g1 K1 r2)
  all_goals
    go_end0
    have hb : Bel w (((w.alloc (Obj.map #[] 0)).alloc (Obj.cells #[.pointer nw, .map (some w.heap.size)] 96)).drew) := (((Bel.refl w).alloc _).alloc _).drew
    have hm : TMap (((w.alloc (Obj.map #[] 0)).alloc (Obj.cells #[.pointer nw, .map (some w.heap.size)] 96)).drew) w.heap.size zs.length (fun _ => false) :=
      (tmap_new w zs.length).keep (S := fun _ => False) (Kep.of_bel (((Bel.refl _).alloc _).drew)) id
    have hh := JX.opened HX.out hb hm (Nat.le_refl _) R1.out GB1.out o1 hd
    exact ⟨rfl, _, ⟨cb, cap, nw, _, _, by rw [← hrl]; exact hh.1⟩, by rw [← hrl]; exact hh.2⟩
end Jn
end Go.Proofs.Ytogphhhlbofgkaa
