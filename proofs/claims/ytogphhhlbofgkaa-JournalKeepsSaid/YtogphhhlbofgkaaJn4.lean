/-
  A journal's record and put: a change is listed, a cell is set. Conditions: the journal lies in memory as JX says; the cell exists.
-/
import Derived.Test.YtogphhhlbofgkaaJn3
namespace Go.Proofs.Ytogphhhlbofgkaa
open Go.RowKit Go.Shelf Go.Maps
set_option linter.unusedVariables false
namespace Jn
open Kk Pm Bk

/-- A change is listed in the topmost level, if there is one. -/
def recL : List (List Ch) → Ch → List (List Ch)
  | [], _ => []
  | l :: r, c => rec1 l c :: r

section
variable {w : World} {M I : Nat → Prop} {pj : Nat} {zs : List Int} {ls : List (List Ch)} {cb cap : Nat} {nw : Option Addr} {v : Value} {rs : List (Option Addr × Nat)}
theorem RStack.maps {n : Nat} : ∀ (ls : List (List Ch)) {p : Option Addr} {rs : List (Option Addr × Nat)}, RStack I w n p ls rs → ∀ r ∈ rs, ∃ es c, w.heap[r.2]? = some (.map es c) := by
  intro ls
  induction ls with
  | nil => intro p rs h; cases rs with
    | nil => intro r hr; cases hr
    | cons r rs => exact h.elim
  | cons c ls ih => intro p rs h; cases rs with
    | nil => exact h.elim
    | cons r rs =>
      intro x hx
      rcases List.mem_cons.1 hx with rfl | hx
      · exact h.2.1.isMap
      · exact ih h.2.2.2 x hx
theorem not_map {b : Nat} {cs : Array Value} {t : TypeId} (h : Blk w b cs t) {es : Array MapEntry} {c : Nat} (h2 : w.heap[b]? = some (.map es c)) : False := by
  have := (show w.heap[b]? = _ from h).symm.trans h2
  cases this
theorem JX.cbk (h : JX w M I pj zs ls cb cap nw v rs) : ∃ cur, Blk w cb cur 31 := by
  rcases h.row.2 with ⟨e, _⟩ | ⟨g, c, cur, e, _, hb, _⟩
  · cases e
  · obtain rfl : cb = g := by injection e with e; injection e with e; injection e
    exact ⟨cur, hb⟩
theorem JX.cbj (h : JX w M I pj zs ls cb cap nw v rs) : cb ≠ pj := by
  obtain ⟨cur, hb⟩ := h.cbk
  rintro rfl
  have := (show w.heap[cb]? = _ from hb).symm.trans h.blk
  cases this
theorem JX.turn {w' : World} {I' : Nat → Prop} {nw' : Option Addr} {ls' : List (List Ch)} (h : JX w M I pj zs ls cb cap nw v rs) (hk : Kep (fun b => b = pj ∨ ∃ r ∈ rs, b = r.2) w w') (hb : Blk w' pj (jc pj cb zs.length cap nw' v) 49)
    (hs : RStack I' w' zs.length nw' ls' rs) (hI : ∀ b, I' b → I b ∨ (w.heap.size ≤ b ∧ ∃ cs t, Blk w' b cs t)) (hd : ls'.length ≤ 65) : JX w' M I' pj zs ls' cb cap nw' v rs := by
  have hm := RStack.maps ls h.stk
  refine { blk := hb, row := ?_, lev := ?_, stk := hs, one := h.one, mj := h.mj, mc := h.mc, ml := h.ml, mm := h.mm, apart := ?_, inM := fun b hb => Nat.lt_of_lt_of_le (h.inM b hb) hk.size, inI := ?_, words := h.words, least := h.least, most := h.most, deep := hd }
  · refine hk.owns (fun k e => ?_) h.row
    obtain rfl : cb = k := by simpa [Value.ownBlock] using e
    rintro (e | ⟨r, hr, rfl⟩)
    · exact h.cbj e
    · obtain ⟨es, c, h2⟩ := hm r hr
      obtain ⟨cur, h1⟩ := h.cbk
      exact not_map h1 h2
  · refine h.lev.keep hk (fun g e => ?_)
    obtain ⟨cur, h1⟩ := h.lev.blk e
    rintro (rfl | ⟨r, hr, rfl⟩)
    · have := (show w.heap[g]? = _ from h1).symm.trans h.blk
      cases this
    · obtain ⟨es, c, h2⟩ := hm r hr
      exact not_map h1 h2
  · intro b hM hI'
    rcases hI b hI' with h' | h'
    · exact h.apart b hM h'
    · have := h.inM b hM; omega
  · intro b hb
    rcases hI b hb with h' | h'
    · obtain ⟨cs, t, h3⟩ := h.inI b h'
      refine ⟨cs, t, h3.kep hk ?_⟩
      rintro (rfl | ⟨r, hr, rfl⟩)
      · exact h.apart _ h.mj h'
      · exact h.apart _ (h.mm r hr) h'
    · exact h'.2
/-- The topmost level's cells. -/
theorem LRow.top {r : Option Addr × Nat} {rs : List (Option Addr × Nat)} (h : LRow w v (r :: rs)) : ∃ g cp, v = .slice (some ⟨g, 0, none⟩) (rs.length + 1) cp ∧ rs.length + 1 ≤ cp ∧ w.cell? ⟨g, rs.length * 2, none⟩ = some (.pointer r.1) ∧ w.cell? ⟨g, rs.length * 2 + 1, none⟩ = some (.map (some r.2)) ∧ w.frozen? ⟨g, rs.length * 2, none⟩ = false ∧ w.frozen? ⟨g, rs.length * 2 + 1, none⟩ = false ∧ g < w.heap.size := by
  obtain ⟨g, cp, cur, rfl, hb, h1, h2, h3, h4⟩ := h.some_
  have hat : ∀ j u, (lc rs ++ [.pointer r.1, .map (some r.2)])[j]? = some u → w.cell? ⟨g, j, none⟩ = some u := by
    intro j u hj
    rw [← h4] at hj
    refine hb.cell j ?_
    rw [List.getElem?_take] at hj
    split at hj
    · rwa [Array.getElem?_toList] at hj
    · cases hj
  refine ⟨g, cp, rfl, h1, hat _ _ ?_, hat _ _ ?_, hb.frozen _, hb.frozen _, hb.lt⟩
  · rw [List.getElem?_append_right (by rw [lc_len]; omega), lc_len, Nat.sub_self]; rfl
  · rw [List.getElem?_append_right (by rw [lc_len]; omega), lc_len, Nat.add_sub_cancel_left]; rfl
end

section
variable {w : World} {M I : Nat → Prop} {pj : Nat} {zs : List Int}
theorem JX.mpj {ls : List (List Ch)} {cb cap : Nat} {nw : Option Addr} {v : Value} {rs : List (Option Addr × Nat)} (h : JX w M I pj zs ls cb cap nw v rs) : ∀ r ∈ rs, r.2 ≠ pj := by
  intro r hr e
  obtain ⟨es, c, h2⟩ := RStack.maps ls h.stk r hr
  rw [e] at h2
  exact not_map h.blk h2
theorem JX.listed {w2 : World} {l : List Ch} {ls : List (List Ch)} {cb cap : Nat} {nw : Option Addr} {v f : Value} {mk : Option Addr} {mb : Nat} {rs : List (Option Addr × Nat)} {i : Nat} {u : Int} {D : DataW Unit}
    (h : JX w M I pj zs (l :: ls) cb cap nw v ((mk, mb) :: rs)) (hk : Kep (fun b => b = mb) w w2) (ho : w2.ownsMap Try.prog 3 unitElem mb (zs.length + 1) (D.put (.int .i64 (i : Int)) (.agg [])))
    (D1 : ∀ i : Nat, Maps.has D (.int .i64 i) = has1 l i) (D2 : ∀ x : Int, Maps.has D (.int .i64 x) = true → 0 ≤ x) (D4 : IsMap D) (hh : has1 l i = false) (hf : Und I w f (i, u)) (hi : i < zs.length) (h0 : 0 ≤ u) (h1 : u ≤ 18446744073709551615) :
    JX ((w2.alloc (.cells #[.int .i64 i, f, .pointer nw] 80)).setCell ⟨pj, 2, none⟩ (.pointer (some ⟨w2.heap.size, 0, none⟩))) M (fun b => I b ∨ b = w2.heap.size) pj zs (((i, u) :: l) :: ls) cb cap (some ⟨w2.heap.size, 0, none⟩) v ((mk, mb) :: rs) := by
  have hmp : mb ≠ pj := h.mpj (mk, mb) (by simp)
  have hmM : M mb := h.mm (mk, mb) (by simp)
  obtain ⟨w3, hw3⟩ : ∃ w3, (w2.alloc (.cells #[.int .i64 (i : Int), f, .pointer nw] 80)).setCell ⟨pj, 2, none⟩ (.pointer (some ⟨w2.heap.size, 0, none⟩)) = w3 := ⟨_, rfl⟩
  have K3' : Kep (fun b => b = pj) w2 w3 := by rw [← hw3]; exact Kep.set_self (Kep.of_bel ((Bel.refl w2).alloc _)) _ _
  have hpj2 : pj < w2.heap.size := Nat.lt_of_lt_of_le h.blk.lt hk.size
  have B3 : Blk w3 pj (jc pj cb zs.length cap (some ⟨w2.heap.size, 0, none⟩) v) 49 := by
    rw [← hw3]
    exact ((h.blk.kep hk (fun e => hmp e.symm)).alloc _).set 2 _
  have BN : Blk w3 w2.heap.size #[.int .i64 (i : Int), f, .pointer nw] 80 := by
    rw [← hw3]
    exact (Blk.new w2 _ 80).other (by omega) _ _
  have hsz : w3.heap.size = w2.heap.size + 1 := by rw [← hw3]; simp
  rw [hw3]
  have K3 : Kep (fun b => b = pj ∨ b = mb) w w3 := (hk.mono fun b _ e => .inr e).trans (K3'.mono fun b _ e => .inl e)
  have hIk : ∀ b, I b → ¬ (b = pj ∨ b = mb) := by
    rintro b hb (rfl | rfl)
    · exact h.apart _ h.mj hb
    · exact h.apart _ hmM hb
  have hord := RStack.ordp h.ltI _ h.stk
  obtain ⟨s1, s2, s3, s4⟩ := h.stk
  refine h.turn (K3.mono fun b _ e => ?_) B3 ⟨?_, ?_, s3.cons hi h0 h1 hh, ?_⟩ ?_ h.deep
  · rcases e with rfl | rfl
    · exact .inl rfl
    · exact .inr ⟨_, List.mem_cons_self .., rfl⟩
  · refine ⟨w2.heap.size, nw, rfl, ⟨f, .inr rfl, BN, (hf.keep K3 hIk).mono fun b => .inl⟩, Nat.le_trans hord hk.size, ?_⟩
    exact Chain.mono (fun b => .inl) _ (Chain.keep K3 hIk _ s1)
  · have ht : TMap w2 mb zs.length (has1 ((i, u) :: l)) := by
      refine tight ho ?_ ?_ ?_
      · intro j
        show _ = (i == j || has1 l j)
        by_cases e : j = i
        · subst e
          rw [has_put_same (k := .int .i64 (j : Int)) D4 trivial]
          simp
        · rw [has_put_other (by intro e2; injection e2 with _ e2; omega), D1, beq_eq_false_iff_ne.2 (fun e2 => e e2.symm)]
          rfl
      · intro x hx
        by_cases e : x = (i : Int)
        · omega
        · rw [has_put_other (by intro e2; injection e2 with _ e2; exact e e2)] at hx
          exact D2 x hx
      · intro j hj
        have hj2 : (i == j || has1 l j) = true := hj
        rw [Bool.or_eq_true] at hj2
        rcases hj2 with e | e
        · rw [← beq_iff_eq.1 e]; exact hi
        · exact s3.lt_of e
    exact ht.keep K3' hmp
  · refine RStack.mono (fun b => .inl) _ (RStack.keep K3 hIk _ (fun r hr => ?_) s4)
    rintro (e | e)
    · exact h.mpj r (List.mem_cons_of_mem _ hr) e
    · have := h.one
      rw [List.map_cons, List.nodup_cons] at this
      exact this.1 (List.mem_map.2 ⟨r, hr, e⟩)
  · rintro b (hb | rfl)
    · exact .inl hb
    · exact .inr ⟨hk.size, _, _, BN⟩
end

/-- The closure of a change. -/
theorem undo1 (cb n cap x y i : Nat) (u z : Int) (w : World) (hx : Blk w x #[.int .u64 u] 31) (hy : Blk w y #[.int .i64 i] 3) (hi : i < n) (hc : w.cell? ⟨cb, i, none⟩ = some (.int .u64 z)) (hf : w.frozen? ⟨cb, i, none⟩ = false) (hn : n ≤ 4096) :
    Calls Try.prog 70 #[.slice (some ⟨cb, 0, none⟩) n cap, .pointer (some ⟨x, 0, none⟩), .pointer (some ⟨y, 0, none⟩)] w fun e w' => e = .returned (.tuple #[]) ∧ w.setCell ⟨cb, i, none⟩ (.int .u64 u) = w' := by
  have cx := hx.cell 0 rfl
  have cy := hy.cell 0 rfl
  have h1 : (i : Int) < n := by omega
  clear hx hy
  go_enter Try.func70, Try.ntmps70
  go_wp2
  go_end0
  exact ⟨rfl, rfl⟩

set_option maxRecDepth 100000 in
theorem record_none {w : World} {M I : Nat → Prop} {pj : Nat} {zs : List Int} (h : JW w M I pj zs []) (i f : Value) :
    Calls Try.prog 44 #[.pointer (some ⟨pj, 0, none⟩), i, f] w fun e w' => e = .returned (.tuple #[]) ∧ w = w' := by
  obtain ⟨cb, cap, nw, v, rs, h⟩ := h
  obtain ⟨A, c, rfl, _⟩ := h.vs
  have c3 := h.c3
  simp only [List.length_nil] at c3
  clear h
  go_enter Try.func44, Try.ntmps44
  go_wp2
  refine bodyPost_ret (results_none rfl _ _ _) rfl ?_
  exact ⟨rfl, rfl⟩

set_option maxRecDepth 100000 in
set_option maxHeartbeats 1000000 in
theorem record_some {w : World} {M I : Nat → Prop} {pj : Nat} {zs : List Int} {l : List Ch} {ls : List (List Ch)} (h : JW w M I pj zs (l :: ls)) (f : Value) (c : Ch) (hf : Und I w f c) (hi : c.1 < zs.length) (h0 : 0 ≤ c.2) (h1 : c.2 ≤ 18446744073709551615) :
    Calls Try.prog 44 #[.pointer (some ⟨pj, 0, none⟩), .int .i64 c.1, f] w fun e w' => e = .returned (.tuple #[]) ∧ ∃ I', JW w' M I' pj zs (rec1 l c :: ls) ∧ Step w w' M I M I' := by
  obtain ⟨cb, cap, nw, v, rs, h⟩ := h
  cases rs with
  | nil => exact h.stk.elim
  | cons r rs =>
  obtain ⟨g, cp, rfl, hcp, k0, k1, kf0, kf1, _⟩ := h.lev.top
  have hlen : rs.length = ls.length := RStack.len ls h.stk.2.2.2
  have hd := h.deep
  have hm := h.most
  simp only [List.length_cons] at hd
  have c3 := h.c3
  have c2 := h.c2
  have f2 := h.blk.frozen 2
  obtain ⟨D, ho, D1, D2, D3⟩ := h.stk.2.1
  have HJ := Lib.hid h
  have HF := Lib.hid hf
  have HO := Lib.hid (fun (w2 : World) (hb : Bel w w2) => (show w2.ownsMap Try.prog 3 unitElem r.2 zs.length D from by
    obtain ⟨es, clock, hh, rr⟩ := ho
    exact ⟨es, clock, (Below.block hb r.2 (Array.getElem?_eq_some_iff.1 hh).1).trans hh, rr⟩))
  have HD1 := Lib.hid D1
  have HD2 := Lib.hid D2
  have HD3 := Lib.hid D3
  clear h hf ho D1 D2 D3
  have hkey := key_int (x := (c.1 : Int)) (by omega) (by omega)
  have hzero : ∀ w, (zeroValue 94).run Try.prog w = .ok (.agg #[]) w := fun w => by kernel_rfl
  obtain ⟨mk, mb⟩ := r
  obtain ⟨i, u⟩ := c
  simp only at *
  rw [hlen] at c3 k0 k1 kf0 kf1 hcp
  generalize ls.length = k at *
  clear hlen
  have hk1 : ((k : Int) + 1 == 0) = false := by rw [beq_eq_false_iff_ne]; omega
  cases hh : has1 l i with
  | true =>
    have hD : Maps.has D (.int .i64 (i : Int)) = true := (HD1.out i).trans hh
    have HO2 := Lib.hid (HO.out w.drew ((Bel.refl w).drew))
    have HR := Lib.hid (show rec1 l (i, u) = l by unfold rec1; rw [if_pos hh])
    have HB := Lib.hid ((Bel.refl w).drew)
    clear hh HO
    go_enter Try.func44, Try.ntmps44
    go_wp2_with fail
    go_region
    go_wp2_with (at_lookup; refine wpList_lookup_own_unit _ rfl _ _ 93 rfl 3 94 kI Try.underlying93 (hzero _) mb zs.length D rfl HO2.out _ _ rfl hkey ?_)
    refine bodyPost_ret (results_none rfl _ _ _) rfl ?_
    have hb : Bel w (w.alloc (Obj.cells #[] 94)).drew := ((Bel.refl w).alloc _).drew
    exact ⟨rfl, I, ⟨cb, cap, nw, _, _, by rw [HR.out]; exact HJ.out.bel hb⟩, Step.of_bel M I hb⟩
  | false =>
    have hD : Maps.has D (.int .i64 (i : Int)) = false := (HD1.out i).trans hh
    have HH := Lib.hid hh
    have hmb : mb ≠ pj := by
      obtain ⟨es, c, h2⟩ := RStack.maps _ HJ.out.stk (mk, mb) (by simp)
      rintro rfl
      exact not_map HJ.out.blk h2
    have HO1 := Lib.hid (HO.out w.drew ((Bel.refl w).drew))
    have hb0 : Bel w (w.alloc (Obj.cells #[] 94)).drew := ((Bel.refl w).alloc _).drew
    have HO2 := Lib.hid (HO.out _ hb0)
    have HO3 := Lib.hid (HO1.out.isMap)
    clear hh HO
    obtain ⟨x, y, rfl, hf⟩ := HF.out
    clear hf
    go_enter Try.func44, Try.ntmps44
    go_wp2_with fail
    go_region
    go_wp2_with (first
      | (at_lookup; refine wpList_lookup_own_unit _ rfl _ _ 93 rfl 3 94 kI Try.underlying93 (hzero _) mb zs.length D rfl HO1.out _ _ rfl hkey ?_)
      | (at_mapUpdate; refine wpList_mapUpdate_own _ rfl _ _ _ 93 rfl 3 94 kI Try.underlying93 _ mb zs.length D rfl HO2.out (by unfold maxLen; omega) _ _ _ rfl rfl hkey _ [] unitElem_mk ?_; intro w2 hown2 hgrow2
         have K2 : Kep (fun b => b = mb) w w2 := Kep.grown (Kep.of_bel hb0) hgrow2 (fun k e _ => by injection e with e; exact e.symm)
         have c2' : w2.cell? ⟨pj, 2, none⟩ = some (.pointer nw) := K2.cell (by omega) c2
         have f2' : w2.frozen? ⟨pj, 2, none⟩ = false := (HJ.out.blk.kep K2 (by omega)).frozen 2
         have c2a : ∀ o, (w2.alloc o).cell? ⟨pj, 2, none⟩ = some (.pointer nw) := fun o => ((HJ.out.blk.kep K2 (by omega)).alloc o).cell 2 rfl
         have f2a : ∀ o, (w2.alloc o).frozen? ⟨pj, 2, none⟩ = false := fun o => ((HJ.out.blk.kep K2 (by omega)).alloc o).frozen 2
         have HOWN := Lib.hid hown2
         have HK2 := Lib.hid K2
         clear hown2 hgrow2 K2))
    go_end0
    refine ⟨rfl, fun b => I b ∨ b = w2.heap.size, ⟨cb, cap, some ⟨w2.heap.size, 0, none⟩, .slice (some ⟨g, 0, none⟩) (rs.length + 1) cp, (mk, mb) :: rs, ?_⟩, ?_⟩
    · have e : rec1 l (i, u) = (i, u) :: l := by unfold rec1; rw [if_neg (by rw [HH.out]; simp)]
      rw [e]
      exact JX.listed HJ.out HK2.out HOWN.out HD1.out HD2.out (HO3.out) HH.out HF.out hi h0 h1
    · refine ⟨?_, fun b hb => .inl hb, fun b hb => ?_, fun b => .inl⟩
      · refine ((HK2.out.mono fun b _ e => ?_).alloc _).set HJ.out.mj _
        rw [e]
        exact HJ.out.mm (mk, mb) (by simp)
      · rcases hb with hb | rfl
        · exact .inl hb
        · exact .inr HK2.out.size

theorem record {w : World} {M I : Nat → Prop} {pj : Nat} {zs : List Int} {ls : List (List Ch)} (h : JW w M I pj zs ls) (f : Value) (c : Ch) (hf : Und I w f c) (hi : c.1 < zs.length) (h0 : 0 ≤ c.2) (h1 : c.2 ≤ 18446744073709551615) :
    Calls Try.prog 44 #[.pointer (some ⟨pj, 0, none⟩), .int .i64 c.1, f] w fun e w' => e = .returned (.tuple #[]) ∧ ∃ I', JW w' M I' pj zs (recL ls c) ∧ Step w w' M I M I' := by
  cases ls with
  | nil =>
    refine (record_none h _ f).mono ?_
    rintro e w' ⟨rfl, rfl⟩
    exact ⟨rfl, I, h, Step.refl _ _ _⟩
  | cons l ls => exact record_some h f c hf hi h0 h1

section
variable {w : World} {M I : Nat → Prop} {pj : Nat} {zs : List Int} {ls : List (List Ch)}
theorem JX.more {w1 : World} {N : Nat → Prop} {cb cap : Nat} {nw : Option Addr} {v : Value} {rs : List (Option Addr × Nat)} (h : JX w M I pj zs ls cb cap nw v rs) (hb : Bel w w1) (hN : ∀ b, N b → w.heap.size ≤ b ∧ ∃ cs t, Blk w1 b cs t) : JX w1 M (fun b => I b ∨ N b) pj zs ls cb cap nw v rs := by
  have h1 := h.bel hb
  refine { h1 with stk := RStack.mono (fun b => .inl) ls h1.stk, apart := ?_, inI := ?_ }
  · rintro b hM (hI | hI)
    · exact h.apart b hM hI
    · have := h.inM b hM; have := (hN b hI).1; omega
  · rintro b (hI | hI)
    · exact h1.inI b hI
    · exact (hN b hI).2
theorem JW.more {w1 : World} {N : Nat → Prop} (h : JW w M I pj zs ls) (hb : Bel w w1) (hN : ∀ b, N b → w.heap.size ≤ b ∧ ∃ cs t, Blk w1 b cs t) : JW w1 M (fun b => I b ∨ N b) pj zs ls := by
  obtain ⟨cb, cap, nw, v, rs, h⟩ := h
  exact ⟨cb, cap, nw, v, rs, h.more hb hN⟩
theorem JX.setc {cb cap : Nat} {nw : Option Addr} {v : Value} {rs : List (Option Addr × Nat)} (h : JX w M I pj zs ls cb cap nw v rs) {i : Nat} {u : Int} (hi : i < zs.length) (h0 : 0 ≤ u) (h1 : u ≤ 18446744073709551615) :
    JX (w.setCell ⟨cb, i, none⟩ (.int .u64 u)) M I pj (zs.set i u) ls cb cap nw v rs := by
  have K : Kep (fun b => b = cb) w (w.setCell ⟨cb, i, none⟩ (.int .u64 u)) := Kep.set_self (Kep.refl _ _) _ _
  have hl : (zs.set i u).length = zs.length := by simp
  obtain ⟨cur, hc⟩ := h.cbk
  refine { blk := ?_, row := ?_, lev := ?_, stk := ?_, one := h.one, mj := h.mj, mc := h.mc, ml := h.ml, mm := h.mm, apart := h.apart, inM := ?_, inI := ?_, words := words_set h.words h0 h1, least := by rw [hl]; exact h.least, most := by rw [hl]; exact h.most, deep := h.deep }
  · rw [hl]; exact h.blk.kep K (fun e => h.cbj e.symm)
  · have := (h.row.stored i (.int .u64 u)).1
    rw [← List.map_set] at this
    rw [hl]
    exact this
  · refine h.lev.keep K (fun g e => ?_)
    rintro rfl
    obtain ⟨cur2, h2⟩ := h.lev.blk e
    have := (show w.heap[g]? = _ from hc).symm.trans h2
    cases this
  · rw [hl]
    refine RStack.keep K (fun b hb e => ?_) ls (fun r hr e => ?_) h.stk
    · rw [e] at hb
      exact h.apart _ h.mc hb
    · obtain ⟨es, c, h2⟩ := RStack.maps ls h.stk r hr
      rw [e] at h2
      exact not_map hc h2
  · intro b hb; exact Nat.lt_of_lt_of_le (h.inM b hb) K.size
  · intro b hb
    obtain ⟨cs, t, h3⟩ := h.inI b hb
    exact ⟨cs, t, h3.kep K (fun e => by rw [e] at hb; exact h.apart _ h.mc hb)⟩
theorem recL_len (ls : List (List Ch)) (c : Ch) : (recL ls c).length = ls.length := by cases ls <;> rfl
end

set_option maxRecDepth 100000 in
set_option maxHeartbeats 1000000 in
theorem put {w : World} {M I : Nat → Prop} {pj : Nat} {zs : List Int} {ls : List (List Ch)} (h : JW w M I pj zs ls) (i : Nat) (u : Int) (hi : i < zs.length) (h0 : 0 ≤ u) (h1 : u ≤ 18446744073709551615) :
    Calls Try.prog 46 #[.pointer (some ⟨pj, 0, none⟩), .int .i64 i, .int .u64 u] w fun e w' => e = .returned (.tuple #[]) ∧ ∃ I', JW w' M I' pj (zs.set i u) (recL ls (i, zs.getD i 0)) ∧ Step w w' M I M I' := by
  have HJ := Lib.hid h
  obtain ⟨cb, cap, nw, v, rs, h⟩ := h
  have c1 := h.c1
  have ck := h.ci hi
  have hwd := h.words i
  have hm := h.most
  have h2 : (i : Int) < zs.length := by omega
  have hb1 : ∀ o, Bel w (w.alloc o) := fun o => (Bel.refl w).alloc o
  have hb2 : ∀ o o', Bel w ((w.alloc o).alloc o') := fun o o' => ((Bel.refl w).alloc o).alloc o'
  have c1a : ∀ o, (w.alloc o).cell? ⟨pj, 1, none⟩ = some (.slice (some ⟨cb, 0, none⟩) zs.length cap) := fun o => (h.bel (hb1 o)).c1
  have c1b : ∀ o o', ((w.alloc o).alloc o').cell? ⟨pj, 1, none⟩ = some (.slice (some ⟨cb, 0, none⟩) zs.length cap) := fun o o' => (h.bel (hb2 o o')).c1
  have cka : ∀ o, (w.alloc o).cell? ⟨cb, i, none⟩ = some (.int .u64 (zs.getD i 0)) := fun o => (h.bel (hb1 o)).ci hi
  have ckb : ∀ o o', ((w.alloc o).alloc o').cell? ⟨cb, i, none⟩ = some (.int .u64 (zs.getD i 0)) := fun o o' => (h.bel (hb2 o o')).ci hi
  have HX := Lib.hid h
  clear h
  generalize hwas : zs.getD i 0 = was at *
  go_enter Try.func46, Try.ntmps46
  go_wp2_with fail
  go_region
  obtain ⟨w1, hw1⟩ : ∃ w1, ((w.alloc (Obj.cells #[Value.int IntKind.i64 ↑i] 3)).alloc (Obj.cells #[Value.int IntKind.u64 was] 31)).drew = w1 := ⟨_, rfl⟩
  rw [hw1]
  have hB1 : Bel w w1 := by rw [← hw1]; exact (((Bel.refl w).alloc _).alloc _).drew
  have hsz : w1.heap.size = w.heap.size + 2 := by rw [← hw1]; simp [World.drew]
  have hby : Blk w1 w.heap.size #[.int .i64 i] 3 := by
    rw [← hw1]
    exact ((Blk.new w #[.int .i64 (i : Int)] 3).alloc _).bel ((Bel.refl _).drew)
  have hbx : Blk w1 (w.heap.size + 1) #[.int .u64 was] 31 := by
    rw [← hw1]
    have := Blk.new (w.alloc (.cells #[.int .i64 (i : Int)] 3)) #[.int .u64 was] 31
    rw [World.size_alloc] at this
    exact this.bel ((Bel.refl _).drew)
  clear c1 c1a c1b ck cka ckb hb1 hb2 hw1
  have hN : ∀ b, (b = w.heap.size ∨ b = w.heap.size + 1) → w.heap.size ≤ b ∧ ∃ cs t, Blk w1 b cs t := by
    rintro b (rfl | rfl)
    · exact ⟨Nat.le_refl _, _, _, hby⟩
    · exact ⟨by omega, _, _, hbx⟩
  have hJ1 := HJ.out.more hB1 hN
  have hS1 : Step w w1 M I M (fun b => I b ∨ (b = w.heap.size ∨ b = w.heap.size + 1)) := ⟨Kep.of_bel hB1, fun b => .inl, fun b hb => hb.imp id (fun h => (hN b h).1), fun b => .inl⟩
  have hU : Und (fun b => I b ∨ (b = w.heap.size ∨ b = w.heap.size + 1)) w1 (.func (.func 70) #[] #[.pointer (some ⟨w.heap.size + 1, 0, none⟩), .pointer (some ⟨w.heap.size, 0, none⟩)]) (i, was) :=
    ⟨_, _, rfl, .inr (.inr rfl), .inr (.inl rfl), hbx, hby⟩
  have R := Lib.hid (record hJ1 _ (i, was) hU hi hwd.1 hwd.2)
  have HM := Lib.hid (fun b hb => HX.out.inM b hb)
  have HBY := Lib.hid hby
  have HS1 := Lib.hid hS1
  have cy := hby.cell 0 rfl
  clear hJ1 hS1 hU hB1 hsz hby hbx hN
  generalize w.heap.size = y at *
  go_wp2_with fail
  refine R.out.mono ?_
  rintro e w2 ⟨rfl, I2, hj2, hs2⟩
  obtain ⟨cb2, cap2, nw2, v2, rs2, hx2⟩ := hj2
  have c1 := hx2.c1
  have ck := hx2.ci hi
  have fk := hx2.row.frozenAt i
  have cy2 : w2.cell? ⟨y, 0, none⟩ = some (.int .i64 i) := hs2.kep.cell (fun hM => by have := HM.out y hM; omega) cy
  have HX2 := Lib.hid hx2
  have HS2 := Lib.hid hs2
  clear hx2 hs2 cy
  go_wp2_with fail
  go_region
  go_wp2
  go_end0
  refine ⟨rfl, I2, ⟨cb2, cap2, nw2, v2, rs2, ?_⟩, ?_⟩
  · exact (HX2.out.bel ((Bel.refl _).drew)).setc hi h0 h1
  · refine HS1.out.trans (HS2.out.trans ⟨?_, fun b => .inl, fun b => .inl, fun b => id⟩)
    exact ((Kep.refl _ w2).drew).set HX2.out.mc _
end Jn
end Go.Proofs.Ytogphhhlbofgkaa
