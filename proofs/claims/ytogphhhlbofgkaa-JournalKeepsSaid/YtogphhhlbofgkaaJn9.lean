/-
  A journal's keep and undo: the topmost level is closed, its changes become those of the level below, or are taken back. Conditions: the journal lies in memory as JX says; a level is open.
-/
import Derived.Test.YtogphhhlbofgkaaJn8
import Derived.Test.YtogphhhlbofgkaaPIn
namespace Go.Proofs.Ytogphhhlbofgkaa
open Go.RowKit Go.Shelf Go.Maps
set_option linter.unusedVariables false
attribute [local go_sem] Oper.semAt_some
namespace Jn
open Kk Pm Bk

/-- Changes are recorded, one after the other. -/
def recAll (ls : List (List Ch)) (t : List Ch) : List (List Ch) := t.foldl recL ls
theorem keepsFrom_kep {M : Nat → Prop} {B : Nat} {W W' : World} (h : Kep M W W') (hM : ∀ b, M b → b < B) : KeepsFrom B W W' :=
  ⟨h.size, fun k o hB hk _ => (h.block k (Array.getElem?_eq_some_iff.1 hk).1 (fun hm => by have := hM k hm; omega)).trans hk⟩
theorem kpI_kep {M I : Nat → Prop} {x y : Nat} {W W' : World} (h : Kep M W W') (hI : ∀ b, I b → ¬ M b ∧ b < W.heap.size) (hx : ¬ M x) (hy : ¬ M y) (hx2 : x < W.heap.size) (hy2 : y < W.heap.size) : KpI I x y W W' := by
  rintro b (hb | rfl | rfl)
  · exact h.block b (hI b hb).2 (hI b hb).1
  · exact h.block _ hx2 hx
  · exact h.block _ hy2 hy
/-- A journal stands while a block that is no cells, and is not its own, turns. -/
theorem JW.own {W W' : World} {M I : Nat → Prop} {pj : Nat} {zs : List Int} {ls : List (List Ch)} {row : Option Nat} (h : JW W M I pj zs ls) (hg : W.grownBy W' row) (hr : ∀ r, row = some r → ¬ M r ∧ ∃ o : Obj, W.heap[r]? = some o ∧ o.isCells = false) : JW W' M I pj zs ls := by
  obtain ⟨cb, cap, nw, v, rs, h⟩ := h
  refine ⟨cb, cap, nw, v, rs, h.keep (S := fun b => row = some b) (Kep.grown (Kep.refl _ W) hg (fun k e _ => e)) (fun b hM e => (hr b e).1 hM) (fun b hI e => ?_)⟩
  obtain ⟨o, ho, hc⟩ := (hr b e).2
  obtain ⟨cs, t, hb⟩ := h.inI b hI
  have := (show W.heap[b]? = _ from hb).symm.trans ho
  injection this with this
  rw [← this] at hc
  cases hc
/-- What is true between two rounds of keep. -/
def KeepI (bx : Nat) (w1 : World) (M I : Nat → Prop) (pj : Nat) (zs : List Int) (ls : List (List Ch)) (t : List Ch) (V : World) : Prop :=
  (∃ I', JW V M I' pj zs (recAll ls t) ∧ (∀ b, I b → I' b) ∧ (∀ b, I' b → I b ∨ bx ≤ b)) ∧ Kep M w1 V
theorem keepI_own {bx : Nat} {w1 : World} {M I : Nat → Prop} {pj : Nat} {zs : List Int} {ls : List (List Ch)} {t : List Ch} {V V' : World} {row : Option Nat} (h : KeepI bx w1 M I pj zs ls t V) (hM : ∀ b, M b → b < w1.heap.size) (hg : V.grownBy V' row) (hr : ∀ r, row = some r → w1.heap.size ≤ r ∧ ∃ o : Obj, V.heap[r]? = some o ∧ o.isCells = false) : KeepI bx w1 M I pj zs ls t V' := by
  obtain ⟨⟨I', hj, h1, h2⟩, hk⟩ := h
  exact ⟨⟨I', hj.own hg (fun r e => ⟨fun hm => by have := hM r hm; have := (hr r e).1; omega, (hr r e).2⟩), h1, h2⟩, hk.grown hg (fun k e hlt => by have := (hr k e).1; omega)⟩

theorem deferred_end {w1 V : World} {M I' : Nat → Prop} {pj D : Nat} {zs : List Int} {ls : List (List Ch)} (hj : JW V M I' pj zs ls) (hk : Kep M w1 V) (hM : ∀ b, M b → b < w1.heap.size) (hD : w1.heap.size ≤ D) (hd : V.heap[D]? = some (.deferred (some []))) :
    JW (V.putObj D (.deferred none)) M I' pj zs ls ∧ Kep M w1 (V.putObj D (.deferred none)) := by
  have hg := grownBy_putObj' V D (.deferred none)
  exact ⟨hj.own hg (fun r e => by cases e; exact ⟨fun hm => by have := hM _ hm; omega, _, hd, rfl⟩), hk.grown hg (fun k e hlt => by cases e; omega)⟩

set_option maxRecDepth 100000 in
set_option maxHeartbeats 4000000 in
theorem keep_ {w : World} {M I : Nat → Prop} {pj : Nat} {zs : List Int} {t : List Ch} {ls : List (List Ch)} (h : JW w M I pj zs (t :: ls)) :
    Calls Try.prog 67 #[.pointer (some ⟨pj, 0, none⟩)] w fun e w' => e = .returned (.tuple #[]) ∧ ∃ I', JW w' M I' pj zs (recAll ls t) ∧ Step w w' M I M I' := by
  have hb0 : Bel w (w.alloc (.cells #[.pointer (some ⟨pj, 0, none⟩)] 23)) := (Bel.refl w).alloc _
  have SH := Lib.hid (shut (h.bel hb0))
  have bj := Blk.new w #[.pointer (some ⟨pj, 0, none⟩)] 23
  have hMw := (show ∀ b, M b → b < w.heap.size from by obtain ⟨_, _, _, _, _, h⟩ := h; exact h.inM)
  have hap := (show ∀ b, M b → ¬ I b from by obtain ⟨_, _, _, _, _, h⟩ := h; exact h.apart)
  have HB0 := Lib.hid hb0
  have BJ := Lib.hid bj
  have HMW := Lib.hid hMw
  have HAP := Lib.hid hap
  clear h hb0 bj hMw hap
  refine callsIn_wide.1 (callsIn_of_wp_marks (F := Fence.wide) (n := 9) Try.func67 rfl trivial ?_ rfl)
  simp only [Try.ntmps67, List.size_toArray, List.length_cons, List.length_nil, Nat.reduceAdd, Nat.reduceSub, Array.replicate_succ, Array.replicate_zero, List.push_toArray, List.append_toArray, List.nil_append, List.cons_append]
  refine wpIn_wide.2 ?_
  go_wp2_with fail
  refine SH.out.mono ?_
  rintro e w1 ⟨x, y, p, m, rfl, hj, hs, hx, hy, hC, hMk, hCs, hx2, hy2⟩
  have bj1 : Blk w1 w.heap.size #[.pointer (some ⟨pj, 0, none⟩)] 23 := BJ.out.kep hs.kep (fun hm => by have := HMW.out _ hm; omega)
  have hI1 : ∀ b, I b → b < w1.heap.size := (show _ from by obtain ⟨_, _, _, _, _, h⟩ := hj; exact h.ltI)
  have hsz : w.heap.size < w1.heap.size := bj1.lt
  have hM1 : ∀ b, M b → b < w1.heap.size := fun b hb => Nat.lt_trans (HMW.out b hb) hsz
  rw [World.size_alloc] at hx2 hy2
  have hzl := hCs
  have SEQ := Lib.hid (seq 8 (by decide) hx hy hC hMk hI1)
  have HJ := Lib.hid hj
  have HS := Lib.hid hs
  have HX := Lib.hid hx
  have HY := Lib.hid hy
  have BJ1 := Lib.hid bj1
  have HI1 := Lib.hid hI1
  have HM1 := Lib.hid hM1
  have HCS := Lib.hid hCs
  have HSZ := Lib.hid (show w.heap.size + 1 ≤ x ∧ w.heap.size + 1 ≤ y ∧ w.heap.size < w1.heap.size from ⟨hx2, hy2, hsz⟩)
  clear hj hs hx hy hC hMk hCs hx2 hy2 bj1 hI1 hM1 hsz hzl
  generalize hbx : w.heap.size = bx at *
  go_wp2_with fail
  refine (wpIn_wide (n := 9)).1 ?_
  refine wpIn_rangeFunc_ownG (α := El I w1 t) rfl (by decide) (gf := 69) (lb := #[.pointer (some ⟨x, 0, none⟩), .pointer (some ⟨y, 0, none⟩)]) rfl trivial (enters_of Try.func69 (by kernel_rfl) rfl)
    SEQ.out KpI.tr (fun W l o o' hl _ _ _ => (fun b hb => World.putObj_heap_other (by
      have h1 := HX.out.lt
      have h2 := HY.out.lt
      rcases hb with hb | rfl | rfl
      · have := HI1.out b hb; omega
      · omega
      · omega))) (Below.refl _ _) (fun _ => rfl)
    (fun (pre : List (El I w1 t)) W => KeepI bx w1 M I pj zs ls (pre.map (fun e => e.1.2)) W) (fun _ _ _ => False)
    (fun s W W' row hs hg hr => keepI_own (t := s.map (fun e => e.1.2)) hs HM1.out hg hr) (fun _ _ _ _ _ hs _ _ => hs)
    ⟨⟨I, HJ.out, fun b => id, fun b => .inl⟩, Kep.refl _ _⟩
    (fun e => { tmps := #[.pointer (some ⟨pj, 0, none⟩), .pointer (some ⟨bx, 0, none⟩), .pointer (some ⟨e.1.1, 0, none⟩), .pointer (some ⟨pj, 0, none⟩), .func (.func 69) #[] #[.pointer (some ⟨x, 0, none⟩), .pointer (some ⟨y, 0, none⟩)], .pointer (some ⟨e.1.1, 0, none⟩), undef, undef, undef, undef, undef, undef, undef, undef, undef, undef], defers := [] }) ?assign ?body ?done ?stop
  case assign =>
    intro l e W K hK
    gi_wp2
    exact hK
  case body =>
    rintro l pre ⟨⟨b, c⟩, ⟨q, hcb⟩, hct⟩ W ⟨⟨I', hj, hI1, hI2⟩, hk⟩ hlen
    have hin : ∀ b, I b → ¬ M b := fun b hI hM => HAP.out b hM hI
    have HAP' := hin
    have hcW := hcb.keep hk hin
    have bjW : Blk W bx #[.pointer (some ⟨pj, 0, none⟩)] 23 := BJ1.out.kep hk (fun hm => by have := HMW.out _ hm; omega)
    have cj := bjW.cell 0 rfl
    obtain ⟨f, hbI, hblk, hu⟩ := hcW
    have cb0 := hblk.cell 0 rfl
    have cb1 := hblk.cell 1 rfl
    obtain ⟨fx, fy, rfl, hfr⟩ := hu
    have hD : Bel W W.drew := (Bel.refl W).drew
    have hU : Und I' W.drew (.func (.func 70) #[] #[.pointer (some ⟨fx, 0, none⟩), .pointer (some ⟨fy, 0, none⟩)]) c :=
      (Und.mono (I := I) ⟨fx, fy, rfl, hfr⟩ hI1).keep (S := fun _ => False) (Kep.of_bel hD) (fun _ _ => id)
    have RC := Lib.hid (record (hj.bel hD) _ c hU (HCS.out.cell c hct) (HCS.out.word c hct).1 (HCS.out.word c hct).2)
    have FIN := Lib.hid (show ∀ (W2 : World) (I2 : Nat → Prop), JW W2 M I2 pj zs (recL (recAll ls (pre.map (fun e => e.1.2))) c) → Step W.drew W2 M I' M I2 →
        KeepsFrom w1.heap.size W W2 ∧ KpI I x y W W2 ∧ KeepI bx w1 M I pj zs ls ((pre ++ ([⟨(b, c), ⟨q, hcb⟩, hct⟩] : List (El I w1 t))).map (fun e : El I w1 t => e.1.2)) W2 from fun W2 I2 hj2 hs2 => by
      have kW : Kep M W W2 := (Kep.of_bel hD).trans hs2.kep
      have hsW := hk.size
      refine ⟨keepsFrom_kep kW HM1.out, kpI_kep kW (fun b hb => ⟨HAP' b hb, Nat.lt_of_lt_of_le (HI1.out b hb) hsW⟩) (fun hm => ?_) (fun hm => ?_) (Nat.lt_of_lt_of_le HX.out.lt hsW) (Nat.lt_of_lt_of_le HY.out.lt hsW), ⟨I2, ?_, ?_, ?_⟩, hk.trans kW⟩
      · have := HMW.out _ hm; have := HSZ.out; omega
      · have := HMW.out _ hm; have := HSZ.out; omega
      · have e : recAll ls ((pre ++ ([⟨(b, c), ⟨q, hcb⟩, hct⟩] : List (El I w1 t))).map (fun e : El I w1 t => e.1.2)) = recL (recAll ls (pre.map (fun e => e.1.2))) c := by
          unfold recAll
          rw [List.map_append, List.foldl_append]
          rfl
        rw [e]
        exact hj2
      · exact fun b' hb' => hs2.s b' (hI1 b' hb')
      · intro b' hb'
        rcases hs2.i b' hb' with h | h
        · exact hI2 b' h
        · have := HSZ.out
          have : W.heap.size ≤ b' := h
          exact .inr (by omega))
    obtain ⟨i, u⟩ := c
    have HINN := Lib.hid hin
    clear hin HAP' hj hI1 hI2 hblk hU hfr hk hbI bjW
    gi_wp2_with fail
    refine wpIn_region_any (by kernel_rfl) ?_
    change wpAnyIn _ _ _ _ _ _ _ _ _ (World.drew _)
    refine any_inRound l (fun i o hi c => no_defer (by kernel_rfl) hi c) _ _ _ _ ?_
    refine wpAnyIn_take (i := 1) (oi := { dst := some 7, op := .move (.tmp 2), type := 46, pos := "level.go:71", after := #[], guard := none }) (v := .pointer (some ⟨b, 0, none⟩)) rfl rfl (by kernel_rfl) (by kernel_rfl) (by kernel_rfl) (fun _ _ _ h => h) ⟨Or.inl ⟨by rfl, by intro w; go_simp⟩, fun _ => rfl⟩ ?_
    try simp only [Act.put, List.setIfInBounds_toArray, List.set_cons_zero, List.set_cons_succ]
    refine wpAnyIn_take (i := 2) (oi := { dst := some 8, op := Op.nilCheck (.tmp 7), type := 0, pos := "level.go:71", after := #[{ on := 1, ground := .data }], guard := none }) (v := .pointer (some ⟨b, 0, none⟩)) rfl rfl (by kernel_rfl) (by kernel_rfl) (by kernel_rfl) (fun _ _ _ h => h) ⟨Or.inl ⟨by rfl, by intro w; go_simp⟩, fun _ => rfl⟩ ?_
    try simp only [Act.put, List.setIfInBounds_toArray, List.set_cons_zero, List.set_cons_succ]
    refine wpAnyIn_take (i := 3) (oi := { dst := some 9, op := .fieldAddr 80 (.tmp 8) 0, type := 0, pos := "level.go:71", after := #[{ on := 2, ground := .data }], guard := none }) (v := .pointer (some ⟨b, 0, none⟩)) rfl rfl (by kernel_rfl) (by kernel_rfl) (by kernel_rfl) (fun _ _ _ h => h) ⟨Or.inl ⟨by rfl, by intro w; go_simp⟩, fun _ => rfl⟩ ?_
    try simp only [Act.put, List.setIfInBounds_toArray, List.set_cons_zero, List.set_cons_succ]
    refine wpAnyIn_take (i := 5) (oi := { dst := some 11, op := .move (.tmp 2), type := 46, pos := "level.go:71", after := #[], guard := none }) (v := .pointer (some ⟨b, 0, none⟩)) rfl rfl (by kernel_rfl) (by kernel_rfl) (by kernel_rfl) (fun _ _ _ h => h) ⟨Or.inl ⟨by rfl, by intro w; go_simp⟩, fun _ => rfl⟩ ?_
    try simp only [Act.put, List.setIfInBounds_toArray, List.set_cons_zero, List.set_cons_succ]
    refine wpAnyIn_take (i := 6) (oi := { dst := some 12, op := Op.nilCheck (.tmp 11), type := 0, pos := "level.go:71", after := #[{ on := 5, ground := .data }], guard := none }) (v := .pointer (some ⟨b, 0, none⟩)) rfl rfl (by kernel_rfl) (by kernel_rfl) (by kernel_rfl) (fun _ _ _ h => h) ⟨Or.inl ⟨by rfl, by intro w; go_simp⟩, fun _ => rfl⟩ ?_
    try simp only [Act.put, List.setIfInBounds_toArray, List.set_cons_zero, List.set_cons_succ]
    refine wpAnyIn_take (i := 7) (oi := { dst := some 13, op := .fieldAddr 80 (.tmp 12) 1, type := 0, pos := "level.go:71", after := #[{ on := 6, ground := .data }], guard := none }) (v := .pointer (some ⟨b, 1, none⟩)) rfl rfl (by kernel_rfl) (by kernel_rfl) (by kernel_rfl) (fun _ _ _ h => h) ⟨Or.inl ⟨by rfl, by intro w; go_simp⟩, fun _ => rfl⟩ ?_
    try simp only [Act.put, List.setIfInBounds_toArray, List.set_cons_zero, List.set_cons_succ]
    refine wpAnyIn_ready (rs := [0, 4, 8]) (by kernel_rfl) (by simp) ?_
    refine AllReadyIn.cons (o := { dst := some 6, op := .load 23 (.tmp 1), type := 23, pos := "level.go:71", after := #[], guard := none }) rfl (fun K hK => ?_) (AllReadyIn.cons (o := { dst := some 10, op := .load 3 (.tmp 9), type := 3, pos := "level.go:71", after := #[{ on := 3, ground := .data }], guard := none }) rfl (fun K hK => ?_) (AllReadyIn.cons (o := { dst := some 14, op := .load 78 (.tmp 13), type := 78, pos := "level.go:71", after := #[{ on := 7, ground := .data }], guard := none }) rfl (fun K hK => ?_) AllReadyIn.nil))
    · go_simp
      refine hK _ _ ?_
      clear hK K
      try simp only [Act.put, List.setIfInBounds_toArray, List.set_cons_zero, List.set_cons_succ]
      refine wpAnyIn_ready (rs := [4, 8]) (by kernel_rfl) (by simp) ?_
      refine AllReadyIn.cons (o := { dst := some 10, op := .load 3 (.tmp 9), type := 3, pos := "level.go:71", after := #[{ on := 3, ground := .data }], guard := none }) rfl (fun K hK => ?_) (AllReadyIn.cons (o := { dst := some 14, op := .load 78 (.tmp 13), type := 78, pos := "level.go:71", after := #[{ on := 7, ground := .data }], guard := none }) rfl (fun K hK => ?_) AllReadyIn.nil)
      · go_simp
        refine hK _ _ ?_
        clear hK K
        try simp only [Act.put, List.setIfInBounds_toArray, List.set_cons_zero, List.set_cons_succ]
        refine wpAnyIn_ready (rs := [8]) (by kernel_rfl) (by simp) ?_
        refine AllReadyIn.cons (o := { dst := some 14, op := .load 78 (.tmp 13), type := 78, pos := "level.go:71", after := #[{ on := 7, ground := .data }], guard := none }) rfl (fun K hK => ?_) AllReadyIn.nil
        go_simp
        refine hK _ _ ?_
        clear hK K
        try simp only [Act.put, List.setIfInBounds_toArray, List.set_cons_zero, List.set_cons_succ]
        refine wpAnyIn_ready (rs := [9]) (by kernel_rfl) (by simp) ?_
        refine AllReadyIn.cons (o := { dst := some 15, op := .call { callee := .value (.func 44), args := #[.tmp 6, .tmp 10, .tmp 14], argTypes := #[23, 3, 78] }, type := 0, pos := "level.go:71", after := #[{ on := 0, ground := .data }, { on := 4, ground := .data }, { on := 8, ground := .data }], guard := none }) rfl (fun K hK => ?_) AllReadyIn.nil
        go_simp
        refine ⟨by first | trivial | decide, ?_⟩
        refine (callsIn_wide.2 RC.out).mono ?_
        rintro e W2 ⟨rfl, I2, hj2, hs2⟩
        go_simp
        refine hK _ _ ?_
        clear hK K
        try simp only [Act.put, List.setIfInBounds_toArray, List.set_cons_zero, List.set_cons_succ]
        refine wpAnyIn_done (by kernel_rfl) ?_ _
        gi_wp2
        exact FIN.out W2 I2 hj2 hs2
      · go_simp
        refine hK _ _ ?_
        clear hK K
        try simp only [Act.put, List.setIfInBounds_toArray, List.set_cons_zero, List.set_cons_succ]
        refine wpAnyIn_ready (rs := [4]) (by kernel_rfl) (by simp) ?_
        refine AllReadyIn.cons (o := { dst := some 10, op := .load 3 (.tmp 9), type := 3, pos := "level.go:71", after := #[{ on := 3, ground := .data }], guard := none }) rfl (fun K hK => ?_) AllReadyIn.nil
        go_simp
        refine hK _ _ ?_
        clear hK K
        try simp only [Act.put, List.setIfInBounds_toArray, List.set_cons_zero, List.set_cons_succ]
        refine wpAnyIn_ready (rs := [9]) (by kernel_rfl) (by simp) ?_
        refine AllReadyIn.cons (o := { dst := some 15, op := .call { callee := .value (.func 44), args := #[.tmp 6, .tmp 10, .tmp 14], argTypes := #[23, 3, 78] }, type := 0, pos := "level.go:71", after := #[{ on := 0, ground := .data }, { on := 4, ground := .data }, { on := 8, ground := .data }], guard := none }) rfl (fun K hK => ?_) AllReadyIn.nil
        go_simp
        refine ⟨by first | trivial | decide, ?_⟩
        refine (callsIn_wide.2 RC.out).mono ?_
        rintro e W2 ⟨rfl, I2, hj2, hs2⟩
        go_simp
        refine hK _ _ ?_
        clear hK K
        try simp only [Act.put, List.setIfInBounds_toArray, List.set_cons_zero, List.set_cons_succ]
        refine wpAnyIn_done (by kernel_rfl) ?_ _
        gi_wp2
        exact FIN.out W2 I2 hj2 hs2
    · go_simp
      refine hK _ _ ?_
      clear hK K
      try simp only [Act.put, List.setIfInBounds_toArray, List.set_cons_zero, List.set_cons_succ]
      refine wpAnyIn_ready (rs := [0, 8]) (by kernel_rfl) (by simp) ?_
      refine AllReadyIn.cons (o := { dst := some 6, op := .load 23 (.tmp 1), type := 23, pos := "level.go:71", after := #[], guard := none }) rfl (fun K hK => ?_) (AllReadyIn.cons (o := { dst := some 14, op := .load 78 (.tmp 13), type := 78, pos := "level.go:71", after := #[{ on := 7, ground := .data }], guard := none }) rfl (fun K hK => ?_) AllReadyIn.nil)
      · go_simp
        refine hK _ _ ?_
        clear hK K
        try simp only [Act.put, List.setIfInBounds_toArray, List.set_cons_zero, List.set_cons_succ]
        refine wpAnyIn_ready (rs := [8]) (by kernel_rfl) (by simp) ?_
        refine AllReadyIn.cons (o := { dst := some 14, op := .load 78 (.tmp 13), type := 78, pos := "level.go:71", after := #[{ on := 7, ground := .data }], guard := none }) rfl (fun K hK => ?_) AllReadyIn.nil
        go_simp
        refine hK _ _ ?_
        clear hK K
        try simp only [Act.put, List.setIfInBounds_toArray, List.set_cons_zero, List.set_cons_succ]
        refine wpAnyIn_ready (rs := [9]) (by kernel_rfl) (by simp) ?_
        refine AllReadyIn.cons (o := { dst := some 15, op := .call { callee := .value (.func 44), args := #[.tmp 6, .tmp 10, .tmp 14], argTypes := #[23, 3, 78] }, type := 0, pos := "level.go:71", after := #[{ on := 0, ground := .data }, { on := 4, ground := .data }, { on := 8, ground := .data }], guard := none }) rfl (fun K hK => ?_) AllReadyIn.nil
        go_simp
        refine ⟨by first | trivial | decide, ?_⟩
        refine (callsIn_wide.2 RC.out).mono ?_
        rintro e W2 ⟨rfl, I2, hj2, hs2⟩
        go_simp
        refine hK _ _ ?_
        clear hK K
        try simp only [Act.put, List.setIfInBounds_toArray, List.set_cons_zero, List.set_cons_succ]
        refine wpAnyIn_done (by kernel_rfl) ?_ _
        gi_wp2
        exact FIN.out W2 I2 hj2 hs2
      · go_simp
        refine hK _ _ ?_
        clear hK K
        try simp only [Act.put, List.setIfInBounds_toArray, List.set_cons_zero, List.set_cons_succ]
        refine wpAnyIn_ready (rs := [0]) (by kernel_rfl) (by simp) ?_
        refine AllReadyIn.cons (o := { dst := some 6, op := .load 23 (.tmp 1), type := 23, pos := "level.go:71", after := #[], guard := none }) rfl (fun K hK => ?_) AllReadyIn.nil
        go_simp
        refine hK _ _ ?_
        clear hK K
        try simp only [Act.put, List.setIfInBounds_toArray, List.set_cons_zero, List.set_cons_succ]
        refine wpAnyIn_ready (rs := [9]) (by kernel_rfl) (by simp) ?_
        refine AllReadyIn.cons (o := { dst := some 15, op := .call { callee := .value (.func 44), args := #[.tmp 6, .tmp 10, .tmp 14], argTypes := #[23, 3, 78] }, type := 0, pos := "level.go:71", after := #[{ on := 0, ground := .data }, { on := 4, ground := .data }, { on := 8, ground := .data }], guard := none }) rfl (fun K hK => ?_) AllReadyIn.nil
        go_simp
        refine ⟨by first | trivial | decide, ?_⟩
        refine (callsIn_wide.2 RC.out).mono ?_
        rintro e W2 ⟨rfl, I2, hj2, hs2⟩
        go_simp
        refine hK _ _ ?_
        clear hK K
        try simp only [Act.put, List.setIfInBounds_toArray, List.set_cons_zero, List.set_cons_succ]
        refine wpAnyIn_done (by kernel_rfl) ?_ _
        gi_wp2
        exact FIN.out W2 I2 hj2 hs2
    · go_simp
      refine hK _ _ ?_
      clear hK K
      try simp only [Act.put, List.setIfInBounds_toArray, List.set_cons_zero, List.set_cons_succ]
      refine wpAnyIn_ready (rs := [0, 4]) (by kernel_rfl) (by simp) ?_
      refine AllReadyIn.cons (o := { dst := some 6, op := .load 23 (.tmp 1), type := 23, pos := "level.go:71", after := #[], guard := none }) rfl (fun K hK => ?_) (AllReadyIn.cons (o := { dst := some 10, op := .load 3 (.tmp 9), type := 3, pos := "level.go:71", after := #[{ on := 3, ground := .data }], guard := none }) rfl (fun K hK => ?_) AllReadyIn.nil)
      · go_simp
        refine hK _ _ ?_
        clear hK K
        try simp only [Act.put, List.setIfInBounds_toArray, List.set_cons_zero, List.set_cons_succ]
        refine wpAnyIn_ready (rs := [4]) (by kernel_rfl) (by simp) ?_
        refine AllReadyIn.cons (o := { dst := some 10, op := .load 3 (.tmp 9), type := 3, pos := "level.go:71", after := #[{ on := 3, ground := .data }], guard := none }) rfl (fun K hK => ?_) AllReadyIn.nil
        go_simp
        refine hK _ _ ?_
        clear hK K
        try simp only [Act.put, List.setIfInBounds_toArray, List.set_cons_zero, List.set_cons_succ]
        refine wpAnyIn_ready (rs := [9]) (by kernel_rfl) (by simp) ?_
        refine AllReadyIn.cons (o := { dst := some 15, op := .call { callee := .value (.func 44), args := #[.tmp 6, .tmp 10, .tmp 14], argTypes := #[23, 3, 78] }, type := 0, pos := "level.go:71", after := #[{ on := 0, ground := .data }, { on := 4, ground := .data }, { on := 8, ground := .data }], guard := none }) rfl (fun K hK => ?_) AllReadyIn.nil
        go_simp
        refine ⟨by first | trivial | decide, ?_⟩
        refine (callsIn_wide.2 RC.out).mono ?_
        rintro e W2 ⟨rfl, I2, hj2, hs2⟩
        go_simp
        refine hK _ _ ?_
        clear hK K
        try simp only [Act.put, List.setIfInBounds_toArray, List.set_cons_zero, List.set_cons_succ]
        refine wpAnyIn_done (by kernel_rfl) ?_ _
        gi_wp2
        exact FIN.out W2 I2 hj2 hs2
      · go_simp
        refine hK _ _ ?_
        clear hK K
        try simp only [Act.put, List.setIfInBounds_toArray, List.set_cons_zero, List.set_cons_succ]
        refine wpAnyIn_ready (rs := [0]) (by kernel_rfl) (by simp) ?_
        refine AllReadyIn.cons (o := { dst := some 6, op := .load 23 (.tmp 1), type := 23, pos := "level.go:71", after := #[], guard := none }) rfl (fun K hK => ?_) AllReadyIn.nil
        go_simp
        refine hK _ _ ?_
        clear hK K
        try simp only [Act.put, List.setIfInBounds_toArray, List.set_cons_zero, List.set_cons_succ]
        refine wpAnyIn_ready (rs := [9]) (by kernel_rfl) (by simp) ?_
        refine AllReadyIn.cons (o := { dst := some 15, op := .call { callee := .value (.func 44), args := #[.tmp 6, .tmp 10, .tmp 14], argTypes := #[23, 3, 78] }, type := 0, pos := "level.go:71", after := #[{ on := 0, ground := .data }, { on := 4, ground := .data }, { on := 8, ground := .data }], guard := none }) rfl (fun K hK => ?_) AllReadyIn.nil
        go_simp
        refine ⟨by first | trivial | decide, ?_⟩
        refine (callsIn_wide.2 RC.out).mono ?_
        rintro e W2 ⟨rfl, I2, hj2, hs2⟩
        go_simp
        refine hK _ _ ?_
        clear hK K
        try simp only [Act.put, List.setIfInBounds_toArray, List.set_cons_zero, List.set_cons_succ]
        refine wpAnyIn_done (by kernel_rfl) ?_ _
        gi_wp2
        exact FIN.out W2 I2 hj2 hs2
  case done =>
    rintro D xs W hD hxs ⟨⟨I', hj, hI1, hI2⟩, hk⟩ hK
    have HE := Lib.hid (deferred_end hj hk HM1.out hD hK)
    have HXS := Lib.hid hxs
    have HI2 := Lib.hid hI2
    have HI3 := Lib.hid hI1
    clear hj hI1 hI2 hk hxs
    gi_wp2_with fail
    refine ⟨by simp, .inl ⟨_, _, rfl, run_takeDeferred hK, ?_⟩⟩
    refine ⟨_, results_none rfl _ _ _, rfl, I', ?_, ?_⟩
    · rw [← HXS.out]; exact HE.out.1
    · have hs : Step w (W.putObj D (.deferred none)) M I M I' := by
        refine ⟨(Kep.of_bel HB0.out).trans (HS.out.kep.trans HE.out.2), fun b => .inl, fun b hb => ?_, HI3.out⟩
        rcases HI2.out b hb with h | h
        · exact .inl h
        · exact .inr (by rw [hbx]; exact h)
      exact hs
  case stop =>
    rintro D c pre W hD _ h _
    exact h.elim
/-- What is true between two rounds of undo. -/
def UndoI (w1 : World) (M I : Nat → Prop) (pj : Nat) (zs : List Int) (ls : List (List Ch)) (t : List Ch) (V : World) : Prop := JW V M I pj (undoS zs t) ls ∧ Kep M w1 V
theorem undoI_own {w1 : World} {M I : Nat → Prop} {pj : Nat} {zs : List Int} {ls : List (List Ch)} {t : List Ch} {V V' : World} {row : Option Nat} (h : UndoI w1 M I pj zs ls t V) (hM : ∀ b, M b → b < w1.heap.size) (hg : V.grownBy V' row) (hr : ∀ r, row = some r → w1.heap.size ≤ r ∧ ∃ o : Obj, V.heap[r]? = some o ∧ o.isCells = false) : UndoI w1 M I pj zs ls t V' :=
  ⟨h.1.own hg (fun r e => ⟨fun hm => by have := hM r hm; have := (hr r e).1; omega, (hr r e).2⟩), h.2.grown hg (fun k e hlt => by have := (hr k e).1; omega)⟩
theorem undoS_app : ∀ (a b : List Ch) (zs : List Int), undoS zs (a ++ b) = undoS (undoS zs a) b := by
  intro a
  induction a with
  | nil => intro b zs; rfl
  | cons c r ih => intro b zs; exact ih b _

set_option maxRecDepth 100000 in
set_option maxHeartbeats 4000000 in
theorem undo_ {w : World} {M I : Nat → Prop} {pj : Nat} {zs : List Int} {t : List Ch} {ls : List (List Ch)} (h : JW w M I pj zs (t :: ls)) :
    Calls Try.prog 47 #[.pointer (some ⟨pj, 0, none⟩)] w fun e w' => e = .returned (.tuple #[]) ∧ JW w' M I pj (undoS zs t) ls ∧ Step w w' M I M I := by
  have hb0 : Bel w (w.alloc (.cells #[.pointer (some ⟨pj, 0, none⟩)] 23)) := (Bel.refl w).alloc _
  have SH := Lib.hid (shut (h.bel hb0))
  have bj := Blk.new w #[.pointer (some ⟨pj, 0, none⟩)] 23
  have hMw := (show ∀ b, M b → b < w.heap.size from by obtain ⟨_, _, _, _, _, h⟩ := h; exact h.inM)
  have hap := (show ∀ b, M b → ¬ I b from by obtain ⟨_, _, _, _, _, h⟩ := h; exact h.apart)
  have HB0 := Lib.hid hb0
  have BJ := Lib.hid bj
  have HMW := Lib.hid hMw
  have HAP := Lib.hid hap
  clear h hb0 bj hMw hap
  refine callsIn_wide.1 (callsIn_of_wp_marks (F := Fence.wide) (n := 9) Try.func47 rfl trivial ?_ rfl)
  simp only [Try.ntmps47, List.size_toArray, List.length_cons, List.length_nil, Nat.reduceAdd, Nat.reduceSub, Array.replicate_succ, Array.replicate_zero, List.push_toArray, List.append_toArray, List.nil_append, List.cons_append]
  refine wpIn_wide.2 ?_
  go_wp2_with fail
  refine SH.out.mono ?_
  rintro e w1 ⟨x, y, p, m, rfl, hj, hs, hx, hy, hC, hMk, hCs, hx2, hy2⟩
  have bj1 : Blk w1 w.heap.size #[.pointer (some ⟨pj, 0, none⟩)] 23 := BJ.out.kep hs.kep (fun hm => by have := HMW.out _ hm; omega)
  have hI1 : ∀ b, I b → b < w1.heap.size := (show _ from by obtain ⟨_, _, _, _, _, h⟩ := hj; exact h.ltI)
  have hsz : w.heap.size < w1.heap.size := bj1.lt
  have hM1 : ∀ b, M b → b < w1.heap.size := fun b hb => Nat.lt_trans (HMW.out b hb) hsz
  rw [World.size_alloc] at hx2 hy2
  have hzl := hCs
  have SEQ := Lib.hid (seq 8 (by decide) hx hy hC hMk hI1)
  have HJ := Lib.hid hj
  have HS := Lib.hid hs
  have HX := Lib.hid hx
  have HY := Lib.hid hy
  have BJ1 := Lib.hid bj1
  have HI1 := Lib.hid hI1
  have HM1 := Lib.hid hM1
  have HCS := Lib.hid hCs
  have HSZ := Lib.hid (show w.heap.size + 1 ≤ x ∧ w.heap.size + 1 ≤ y ∧ w.heap.size < w1.heap.size from ⟨hx2, hy2, hsz⟩)
  clear hj hs hx hy hC hMk hCs hx2 hy2 bj1 hI1 hM1 hsz hzl
  generalize hbx : w.heap.size = bx at *
  go_wp2_with fail
  refine (wpIn_wide (n := 9)).1 ?_
  refine wpIn_rangeFunc_ownG (α := El I w1 t) rfl (by decide) (gf := 69) (lb := #[.pointer (some ⟨x, 0, none⟩), .pointer (some ⟨y, 0, none⟩)]) rfl trivial (enters_of Try.func69 (by kernel_rfl) rfl)
    SEQ.out KpI.tr (fun W l o o' hl _ _ _ => (fun b hb => World.putObj_heap_other (by
      have h1 := HX.out.lt
      have h2 := HY.out.lt
      rcases hb with hb | rfl | rfl
      · have := HI1.out b hb; omega
      · omega
      · omega))) (Below.refl _ _) (fun _ => rfl)
    (fun (pre : List (El I w1 t)) W => UndoI w1 M I pj zs ls (pre.map (fun e => e.1.2)) W) (fun _ _ _ => False)
    (fun s W W' row hs hg hr => undoI_own (t := s.map (fun e => e.1.2)) hs HM1.out hg hr) (fun _ _ _ _ _ hs _ _ => hs)
    ⟨HJ.out, Kep.refl _ _⟩
    (fun e => { tmps := #[.pointer (some ⟨pj, 0, none⟩), .pointer (some ⟨bx, 0, none⟩), .pointer (some ⟨e.1.1, 0, none⟩), .pointer (some ⟨pj, 0, none⟩), .func (.func 69) #[] #[.pointer (some ⟨x, 0, none⟩), .pointer (some ⟨y, 0, none⟩)], .pointer (some ⟨e.1.1, 0, none⟩), undef, undef, undef, undef, undef, undef, undef, undef, undef], defers := [] }) ?assign ?body ?done ?stop
  case assign =>
    intro l e W K hK
    gi_wp2
    exact hK
  case body =>
    rintro l pre ⟨⟨b, c⟩, ⟨q, hcb⟩, hct⟩ W ⟨hj, hk⟩ hlen
    have hin : ∀ b, I b → ¬ M b := fun b hI hM => HAP.out b hM hI
    have HAP' := hin
    have hcW := hcb.keep hk hin
    have bjW : Blk W bx #[.pointer (some ⟨pj, 0, none⟩)] 23 := BJ1.out.kep hk (fun hm => by have := HMW.out _ hm; omega)
    have cj := bjW.cell 0 rfl
    obtain ⟨f, hbI, hblk, hu⟩ := hcW
    have cb1 := hblk.cell 1 rfl
    obtain ⟨fx, fy, rfl, hfx, hfy, hbx1, hby1⟩ := hu
    have hD : Bel W W.drew := (Bel.refl W).drew
    obtain ⟨kb, cap, nw, v, rs, hx⟩ := hj
    have hll : (undoS zs (pre.map (fun e => e.1.2))).length = zs.length := undoS_len _ _
    have hcl := HCS.out.cell c hct
    have hcw := HCS.out.word c hct
    have c1 := hx.c1
    have hxd := hx.bel hD
    have RC := Lib.hid (undo1 kb (undoS zs (pre.map (fun e => e.1.2))).length cap fx fy c.1 c.2 _ W.drew (hbx1.bel hD) (hby1.bel hD) (by rw [hll]; exact hcl) (hxd.ci (by rw [hll]; exact hcl)) (hxd.row.frozenAt c.1) hxd.most)
    have FIN := Lib.hid (show KeepsFrom w1.heap.size W (W.drew.setCell ⟨kb, c.1, none⟩ (.int .u64 c.2)) ∧ KpI I x y W (W.drew.setCell ⟨kb, c.1, none⟩ (.int .u64 c.2)) ∧ UndoI w1 M I pj zs ls ((pre ++ ([⟨(b, c), ⟨q, hcb⟩, hct⟩] : List (El I w1 t))).map (fun e : El I w1 t => e.1.2)) (W.drew.setCell ⟨kb, c.1, none⟩ (.int .u64 c.2)) from by
      have kW : Kep M W (W.drew.setCell ⟨kb, c.1, none⟩ (.int .u64 c.2)) := (Kep.of_bel hD).set hx.mc _
      have hsW := hk.size
      refine ⟨keepsFrom_kep kW HM1.out, kpI_kep kW (fun b hb => ⟨HAP' b hb, Nat.lt_of_lt_of_le (HI1.out b hb) hsW⟩) (fun hm => ?_) (fun hm => ?_) (Nat.lt_of_lt_of_le HX.out.lt hsW) (Nat.lt_of_lt_of_le HY.out.lt hsW), ?_, hk.trans kW⟩
      · have := HMW.out _ hm; have := HSZ.out; omega
      · have := HMW.out _ hm; have := HSZ.out; omega
      · have e : undoS zs ((pre ++ ([⟨(b, c), ⟨q, hcb⟩, hct⟩] : List (El I w1 t))).map (fun e : El I w1 t => e.1.2)) = (undoS zs (pre.map (fun e => e.1.2))).set c.1 c.2 := by
          rw [List.map_append, undoS_app]
          rfl
        rw [e]
        exact ⟨kb, cap, nw, v, rs, hxd.setc (by rw [hll]; exact hcl) hcw.1 hcw.2⟩)
    obtain ⟨i, u⟩ := c
    rw [hll] at RC c1
    clear hin HAP' hblk hfx hfy hbx1 hby1 hx hxd hk hbI bjW hll hD
    gi_wp2_with fail
    refine wpIn_region_any (by kernel_rfl) ?_
    change wpAnyIn _ _ _ _ _ _ _ _ _ (World.drew _)
    refine any_inRound l (fun i o hi c => no_defer (by kernel_rfl) hi c) _ _ _ _ ?_
    refine wpAnyIn_take (i := 0) (oi := { dst := some 6, op := .move (.tmp 2), type := 46, pos := "level.go:78", after := #[], guard := none }) (v := .pointer (some ⟨b, 0, none⟩)) rfl rfl (by kernel_rfl) (by kernel_rfl) (by kernel_rfl) (fun _ _ _ h => h) ⟨Or.inl ⟨by rfl, by intro w; go_simp⟩, fun _ => rfl⟩ ?_
    try simp only [Act.put, List.setIfInBounds_toArray, List.set_cons_zero, List.set_cons_succ]
    refine wpAnyIn_take (i := 1) (oi := { dst := some 7, op := Op.nilCheck (.tmp 6), type := 0, pos := "level.go:78", after := #[{ on := 0, ground := .data }], guard := none }) (v := .pointer (some ⟨b, 0, none⟩)) rfl rfl (by kernel_rfl) (by kernel_rfl) (by kernel_rfl) (fun _ _ _ h => h) ⟨Or.inl ⟨by rfl, by intro w; go_simp⟩, fun _ => rfl⟩ ?_
    try simp only [Act.put, List.setIfInBounds_toArray, List.set_cons_zero, List.set_cons_succ]
    refine wpAnyIn_take (i := 2) (oi := { dst := some 8, op := .fieldAddr 80 (.tmp 7) 1, type := 0, pos := "level.go:78", after := #[{ on := 1, ground := .data }], guard := none }) (v := .pointer (some ⟨b, 1, none⟩)) rfl rfl (by kernel_rfl) (by kernel_rfl) (by kernel_rfl) (fun _ _ _ h => h) ⟨Or.inl ⟨by rfl, by intro w; go_simp⟩, fun _ => rfl⟩ ?_
    try simp only [Act.put, List.setIfInBounds_toArray, List.set_cons_zero, List.set_cons_succ]
    refine wpAnyIn_ready (rs := [3, 4]) (by kernel_rfl) (by simp) ?_
    refine AllReadyIn.cons (o := { dst := some 9, op := .load 78 (.tmp 8), type := 78, pos := "level.go:78", after := #[{ on := 2, ground := .data }], guard := none }) rfl (fun K hK => ?_) (AllReadyIn.cons (o := { dst := some 10, op := .load 23 (.tmp 1), type := 23, pos := "level.go:78", after := #[], guard := none }) rfl (fun K hK => ?_) AllReadyIn.nil)
    · go_simp
      refine hK _ _ ?_
      clear hK K
      try simp only [Act.put, List.setIfInBounds_toArray, List.set_cons_zero, List.set_cons_succ]
      refine wpAnyIn_ready (rs := [4]) (by kernel_rfl) (by simp) ?_
      refine AllReadyIn.cons (o := { dst := some 10, op := .load 23 (.tmp 1), type := 23, pos := "level.go:78", after := #[], guard := none }) rfl (fun K hK => ?_) AllReadyIn.nil
      go_simp
      refine hK _ _ ?_
      clear hK K
      try simp only [Act.put, List.setIfInBounds_toArray, List.set_cons_zero, List.set_cons_succ]
      refine wpAnyIn_take (i := 5) (oi := { dst := some 11, op := Op.nilCheck (.tmp 10), type := 0, pos := "level.go:78", after := #[{ on := 4, ground := .data }], guard := none }) (v := .pointer (some ⟨pj, 0, none⟩)) rfl rfl (by kernel_rfl) (by kernel_rfl) (by kernel_rfl) (fun _ _ _ h => h) ⟨Or.inl ⟨by rfl, by intro w; go_simp⟩, fun _ => rfl⟩ ?_
      try simp only [Act.put, List.setIfInBounds_toArray, List.set_cons_zero, List.set_cons_succ]
      refine wpAnyIn_take (i := 6) (oi := { dst := some 12, op := .fieldAddr 49 (.tmp 11) 1, type := 0, pos := "level.go:78", after := #[{ on := 5, ground := .data }], guard := none }) (v := .pointer (some ⟨pj, 1, none⟩)) rfl rfl (by kernel_rfl) (by kernel_rfl) (by kernel_rfl) (fun _ _ _ h => h) ⟨Or.inl ⟨by rfl, by intro w; go_simp⟩, fun _ => rfl⟩ ?_
      try simp only [Act.put, List.setIfInBounds_toArray, List.set_cons_zero, List.set_cons_succ]
      refine wpAnyIn_ready (rs := [7]) (by kernel_rfl) (by simp) ?_
      refine AllReadyIn.cons (o := { dst := some 13, op := .load 45 (.tmp 12), type := 45, pos := "level.go:78", after := #[{ on := 6, ground := .data }], guard := none }) rfl (fun K hK => ?_) AllReadyIn.nil
      go_simp
      refine hK _ _ ?_
      clear hK K
      try simp only [Act.put, List.setIfInBounds_toArray, List.set_cons_zero, List.set_cons_succ]
      refine wpAnyIn_ready (rs := [8]) (by kernel_rfl) (by simp) ?_
      refine AllReadyIn.cons (o := { dst := some 14, op := .call { callee := .value (.tmp 9), args := #[.tmp 13], argTypes := #[45] }, type := 0, pos := "level.go:78", after := #[{ on := 3, ground := .data }, { on := 7, ground := .data }], guard := none }) rfl (fun K hK => ?_) AllReadyIn.nil
      go_simp
      refine ⟨by first | trivial | decide, ?_⟩
      refine (callsIn_wide.2 RC.out).mono ?_
      rintro e W2 ⟨rfl, rfl⟩
      go_simp
      refine hK _ _ ?_
      clear hK K
      try simp only [Act.put, List.setIfInBounds_toArray, List.set_cons_zero, List.set_cons_succ]
      refine wpAnyIn_done (by kernel_rfl) ?_ _
      gi_wp2
      exact FIN.out
    · go_simp
      refine hK _ _ ?_
      clear hK K
      try simp only [Act.put, List.setIfInBounds_toArray, List.set_cons_zero, List.set_cons_succ]
      refine wpAnyIn_take (i := 5) (oi := { dst := some 11, op := Op.nilCheck (.tmp 10), type := 0, pos := "level.go:78", after := #[{ on := 4, ground := .data }], guard := none }) (v := .pointer (some ⟨pj, 0, none⟩)) rfl rfl (by kernel_rfl) (by kernel_rfl) (by kernel_rfl) (fun _ _ _ h => h) ⟨Or.inl ⟨by rfl, by intro w; go_simp⟩, fun _ => rfl⟩ ?_
      try simp only [Act.put, List.setIfInBounds_toArray, List.set_cons_zero, List.set_cons_succ]
      refine wpAnyIn_take (i := 6) (oi := { dst := some 12, op := .fieldAddr 49 (.tmp 11) 1, type := 0, pos := "level.go:78", after := #[{ on := 5, ground := .data }], guard := none }) (v := .pointer (some ⟨pj, 1, none⟩)) rfl rfl (by kernel_rfl) (by kernel_rfl) (by kernel_rfl) (fun _ _ _ h => h) ⟨Or.inl ⟨by rfl, by intro w; go_simp⟩, fun _ => rfl⟩ ?_
      try simp only [Act.put, List.setIfInBounds_toArray, List.set_cons_zero, List.set_cons_succ]
      refine wpAnyIn_ready (rs := [3, 7]) (by kernel_rfl) (by simp) ?_
      refine AllReadyIn.cons (o := { dst := some 9, op := .load 78 (.tmp 8), type := 78, pos := "level.go:78", after := #[{ on := 2, ground := .data }], guard := none }) rfl (fun K hK => ?_) (AllReadyIn.cons (o := { dst := some 13, op := .load 45 (.tmp 12), type := 45, pos := "level.go:78", after := #[{ on := 6, ground := .data }], guard := none }) rfl (fun K hK => ?_) AllReadyIn.nil)
      · go_simp
        refine hK _ _ ?_
        clear hK K
        try simp only [Act.put, List.setIfInBounds_toArray, List.set_cons_zero, List.set_cons_succ]
        refine wpAnyIn_ready (rs := [7]) (by kernel_rfl) (by simp) ?_
        refine AllReadyIn.cons (o := { dst := some 13, op := .load 45 (.tmp 12), type := 45, pos := "level.go:78", after := #[{ on := 6, ground := .data }], guard := none }) rfl (fun K hK => ?_) AllReadyIn.nil
        go_simp
        refine hK _ _ ?_
        clear hK K
        try simp only [Act.put, List.setIfInBounds_toArray, List.set_cons_zero, List.set_cons_succ]
        refine wpAnyIn_ready (rs := [8]) (by kernel_rfl) (by simp) ?_
        refine AllReadyIn.cons (o := { dst := some 14, op := .call { callee := .value (.tmp 9), args := #[.tmp 13], argTypes := #[45] }, type := 0, pos := "level.go:78", after := #[{ on := 3, ground := .data }, { on := 7, ground := .data }], guard := none }) rfl (fun K hK => ?_) AllReadyIn.nil
        go_simp
        refine ⟨by first | trivial | decide, ?_⟩
        refine (callsIn_wide.2 RC.out).mono ?_
        rintro e W2 ⟨rfl, rfl⟩
        go_simp
        refine hK _ _ ?_
        clear hK K
        try simp only [Act.put, List.setIfInBounds_toArray, List.set_cons_zero, List.set_cons_succ]
        refine wpAnyIn_done (by kernel_rfl) ?_ _
        gi_wp2
        exact FIN.out
      · go_simp
        refine hK _ _ ?_
        clear hK K
        try simp only [Act.put, List.setIfInBounds_toArray, List.set_cons_zero, List.set_cons_succ]
        refine wpAnyIn_ready (rs := [3]) (by kernel_rfl) (by simp) ?_
        refine AllReadyIn.cons (o := { dst := some 9, op := .load 78 (.tmp 8), type := 78, pos := "level.go:78", after := #[{ on := 2, ground := .data }], guard := none }) rfl (fun K hK => ?_) AllReadyIn.nil
        go_simp
        refine hK _ _ ?_
        clear hK K
        try simp only [Act.put, List.setIfInBounds_toArray, List.set_cons_zero, List.set_cons_succ]
        refine wpAnyIn_ready (rs := [8]) (by kernel_rfl) (by simp) ?_
        refine AllReadyIn.cons (o := { dst := some 14, op := .call { callee := .value (.tmp 9), args := #[.tmp 13], argTypes := #[45] }, type := 0, pos := "level.go:78", after := #[{ on := 3, ground := .data }, { on := 7, ground := .data }], guard := none }) rfl (fun K hK => ?_) AllReadyIn.nil
        go_simp
        refine ⟨by first | trivial | decide, ?_⟩
        refine (callsIn_wide.2 RC.out).mono ?_
        rintro e W2 ⟨rfl, rfl⟩
        go_simp
        refine hK _ _ ?_
        clear hK K
        try simp only [Act.put, List.setIfInBounds_toArray, List.set_cons_zero, List.set_cons_succ]
        refine wpAnyIn_done (by kernel_rfl) ?_ _
        gi_wp2
        exact FIN.out
  case done =>
    rintro D xs W hD hxs ⟨hj, hk⟩ hK
    have HE := Lib.hid (deferred_end hj hk HM1.out hD hK)
    have HXS := Lib.hid hxs
    clear hj hk hxs
    gi_wp2_with fail
    refine ⟨by simp, .inl ⟨_, _, rfl, run_takeDeferred hK, ?_⟩⟩
    refine ⟨_, results_none rfl _ _ _, rfl, ?_, ?_⟩
    · rw [← HXS.out]; exact HE.out.1
    · have hs : Step w (W.putObj D (.deferred none)) M I M I := ⟨(Kep.of_bel HB0.out).trans (HS.out.kep.trans HE.out.2), fun b => .inl, fun b => .inl, fun b => id⟩
      exact hs
  case stop =>
    rintro D c pre W hD _ h _
    exact h.elim
end Jn
end Go.Proofs.Ytogphhhlbofgkaa
