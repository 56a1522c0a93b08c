/-
  Texts of this claim, put together: Ho13, Ho14. What each one says, and under which conditions, stands ahead of it.
-/
import Derived.Deep.RegionLaw
import Derived.Lib.AppendZeros
import Derived.Lib.AppendZerosOnto
import Derived.Lib.Overlaps
import Derived.Laws.Externs
import Derived.Laws.CopyRow
import Derived.Test.YtneajcoiemkfbaaGreatTk
import Derived.Test.YtneajcoiemkfbaaGreatCG

section
/-
  What slices.Delete, Insert and Replace make of a list of one's own, of classes and of positions, one row taken out, put in, or put in the place of another. Conditions: at most a billion rows.
-/
namespace Go.Proofs.YtneajcoiemkfbaaGreat
open Go.RowKit Go.Shelf
set_option linter.unusedVariables false
set_option linter.unusedSimpArgs false
namespace Ho
open Kk Pm

theorem run_copy6 {P : Program} (w : World) (dT sT ty elem : TypeId) (g o dLen dCap : Nat) (a : Addr) (sLen sCap : Nat) (cur : List Value) (t : TypeId) (cs : List Value)
    (hu : P.underlying dT = some (.slice elem)) (hs : (P.info? elem).map (·.size) = some 6) (hg : Blk w g cur.toArray t) (hn : cs.length = Nat.min sLen dLen * 6)
    (hsrc : ∀ j v, cs[j]? = some v → w.cell? (a.add j) = some v) (hfit : o + cs.length ≤ cur.length) (h1 : ∀ v ∈ cs, v.oneCell' = true) :
    (Builtin.copy_ #[dT, sT] ty #[.slice (some ⟨g, o, none⟩) dLen dCap, .slice (some a) sLen sCap]).run P w = .ok (goInt (Nat.min sLen dLen)) (w.setRow g (cur.take o ++ cs ++ cur.drop (o + cs.length)).toArray) := by
  have hf := run_firstCells_some (P := P) w 6 (Nat.min sLen dLen) a sLen sCap cs hn hsrc
  have hst := run_storeCells_at P g o t cs 0 cur.toArray w hg (by simpa using hfit) h1
  simp only [Nat.add_zero] at hst
  cases hq : P.info? elem with
  | none => simp [hq] at hs
  | some i =>
    have hi : i.size = 6 := by simpa [hq] using hs
    simp [Builtin.copy_, run_underlying hu, Builtin.lenOf, sizeOf, typeInfo, hq, hi, hf, hst]
theorem run_clear6 {P : Program} (w : World) (t e ty : TypeId) (z : Value) (zs : List Value) (ht : P.underlying t = some (.slice e)) (hv : ∀ w, (zeroValue e).run P w = .ok z w) (hz : z.cells = zs.toArray) (h6 : zs.length = 6) (h1 : ∀ v ∈ zs, v.oneCell' = true) (g o c : Nat) (cur : List Value) (tt : TypeId)
    (hg : Blk w g cur.toArray tt) (hfit : o + 6 ≤ cur.length) :
    (Builtin.clear_ #[t] ty #[.slice (some ⟨g, o, none⟩) 1 c]).run P w = .ok (.tuple #[]) (w.setRow g (cur.take o ++ zs ++ cur.drop (o + 6)).toArray) := by
  have hzc : (Builtin.zeroCells z.cells 1).toList = zs := by
    rw [hz]
    simp [Builtin.zeroCells]
    apply List.ext_getElem
    · simp
    · intro i h2 h3
      have : i < zs.length := h3
      simp [Nat.mod_eq_of_lt this, List.getElem?_eq_getElem this]
  have hst := run_storeCells_at P g o tt zs 0 cur.toArray w hg (by simpa [h6] using hfit) h1
  simp only [Nat.add_zero, h6] at hst
  simp [Builtin.clear_, run_underlying ht, hv, hzc, hst]
theorem wpList_copy_run {P : Program} {w : World} {ops : Array Oper} {rest : List Oper} {o : Oper} {a : Act} {Q : Exit → Act → World → Prop} (hgd : o.guard = none) (d s : Operand) (t t' : TypeId)
    (ho : o.op = .call { callee := .builtin .copy, args := #[d, s], argTypes := #[t, t'] }) (v u : Value) (hd : a.eval d = v) (hs : a.eval s = u) {v' : Value} {w' : World}
    (hr : (Builtin.copy_ #[t, t'] o.type #[v, u]).run P w = .ok v' w') (h : wpList P ops Q rest (a.put o.dst v') w') : wpList P ops Q (o :: rest) a w :=
  wpList_plain hgd fun _ hK => by
    unfold Oper.wp execOp
    simp only [ho, resolve, invoke, builtin, Sem.run_bind, Sem.run_pure, Result.andThen_ok, List.map_toArray, List.map_cons, List.map_nil, hd, hs, hr]
    exact hK _ _ h
theorem wpList_clear_run {P : Program} {w : World} {ops : Array Oper} {rest : List Oper} {o : Oper} {a : Act} {Q : Exit → Act → World → Prop} (hgd : o.guard = none) (d : Operand) (t : TypeId)
    (ho : o.op = .call { callee := .builtin .clear, args := #[d], argTypes := #[t] }) (v : Value) (hd : a.eval d = v) {v' : Value} {w' : World}
    (hr : (Builtin.clear_ #[t] o.type #[v]).run P w = .ok v' w') (h : wpList P ops Q rest (a.put o.dst v') w') : wpList P ops Q (o :: rest) a w :=
  wpList_plain hgd fun _ hK => by
    unfold Oper.wp execOp
    simp only [ho, resolve, invoke, builtin, Sem.run_bind, Sem.run_pure, Result.andThen_ok, List.map_toArray, List.map_cons, List.map_nil, hd, hr]
    exact hK _ _ h
theorem step_copy_run {P : Program} {ops : Array Oper} {o : Oper} {a : Act} {w : World} {K : Act → World → Prop} {Q : Exit → Act → World → Prop} {E : Prop}
    (hg : o.guard = none) (d x : Operand) (dT sT : TypeId) (hop : o.op = Op.call { callee := Callee.builtin Builtin.copy, args := #[d, x], argTypes := #[dT, sT] })
    (v u : Value) (hd : a.eval d = v) (hx : a.eval x = u) {v' : Value} {w' : World} (hr : (Builtin.copy_ #[dT, sT] o.type #[v, u]).run P w = .ok v' w') (hK : K (a.put o.dst v') w') :
    if Region.wanted o (yielded ops a.tmps) = true then Oper.wp P o a w K Q else E := by
  have hw : Region.wanted o (yielded ops a.tmps) = true := by simp [Region.wanted, hg]
  rw [if_pos hw]
  unfold Oper.wp
  simp [execOp, hop, resolve, invoke, builtin, hd, hx, hr, Result.andThen]
  exact hK
theorem step_append_run {P : Program} {ops : Array Oper} {o : Oper} {a : Act} {w : World} {K : Act → World → Prop} {Q : Exit → Act → World → Prop} {E : Prop}
    (hg : o.guard = none) (d x : Operand) (dT sT : TypeId) (hop : o.op = Op.call { callee := Callee.builtin Builtin.append, args := #[d, x], argTypes := #[dT, sT] })
    (v u : Value) (hd : a.eval d = v) (hx : a.eval x = u) {v' : Value} {w' : World} (hr : (Builtin.append_ #[dT, sT] o.type #[v, u]).run P w = .ok v' w') (hK : K (a.put o.dst v') w') :
    if Region.wanted o (yielded ops a.tmps) = true then Oper.wp P o a w K Q else E := by
  have hw : Region.wanted o (yielded ops a.tmps) = true := by simp [Region.wanted, hg]
  rw [if_pos hw]
  unfold Oper.wp
  simp [execOp, hop, resolve, invoke, builtin, hd, hx, hr, Result.andThen]
  exact hK
theorem blk_setRow {w : World} {g : Nat} {cur : Array Value} {t : TypeId} (h : Blk w g cur t) (X : Array Value) : Blk (w.setRow g X) g X t := setRow_heap w g cur X t (0, 0) h
theorem kep_setRow (w : World) (g : Nat) (X : Array Value) : Kep (fun b => b = g) w (w.setRow g X) :=
  ⟨rfl, rfl, rfl, by simp [World.setRow], fun k _ hk => setRow_other w g k X hk⟩
theorem rb_list {k : R6 → List Value} (K : C6 k) {t : TypeId} {w : World} {g : Nat} {l : List R6} {cap : Nat} (h : RB k t w g l cap) : ∃ sp, Blk w g (flat k l ++ sp).toArray t ∧ sp.length = (cap - l.length) * 6 := by
  obtain ⟨cur, h1, h2, h3⟩ := h.blk
  refine ⟨cur.toList.drop (l.length * 6), ?_, by simp [h3, Nat.sub_mul]⟩
  rw [← h2, List.take_append_drop]
  exact h1
theorem rb_mk {k : R6 → List Value} (K : C6 k) {t : TypeId} {w : World} {g : Nat} {l : List R6} {cap : Nat} {sp : List Value} (h : Blk w g (flat k l ++ sp).toArray t) (hs : sp.length = (cap - l.length) * 6) (hc : l.length ≤ cap) : RB k t w g l cap :=
  ⟨⟨_, h, by simp [flat_len K], by simp [flat_len K, hs]; omega⟩, hc⟩

theorem zero_vC (w : World) : (zeroValue 90).run Tryz.prog w = .ok (.agg (cC (0, 0, 0, 0, 0, 0)).toArray) w := by
  obtain ⟨i0, h1, hz0, hz1, hz2⟩ := info_parts zero_c
  simp [zeroValue, typeInfo, h1, hz0]
theorem slice_lC (g n cap i : Nat) (w : World) (h : i ≤ n) (hc : n ≤ cap) : (Instr.slice 22 (.slice (some ⟨g, 0, none⟩) n cap) (some (.int .i64 i)) none none).run Tryz.prog w = .ok (.slice (some (if cap = i then ⟨g, 0, none⟩ else ⟨g, i * 6, none⟩)) (n - i) (cap - i)) w := by
  have e : Tryz.prog.elem 22 = 90 := by kernel_rfl
  rw [run_slice_l (P := Tryz.prog) (w := w) (t := 22) (a := some ⟨g, 0, none⟩) (len := n) (cap := cap) (by rw [e]; exact Tryz.underlying22) .i64 i (by omega) (by omega), e]
  by_cases hh : cap = i
  · simp [Tryz.sizeOf90, Result.andThen, sliced, hh]
  · simp [Tryz.sizeOf90, Result.andThen, sliced, hh, add_at]
theorem slice_hrC (g n cap i : Nat) (w : World) (hc : i ≤ cap) : (Instr.slice 22 (.slice (some ⟨g, 0, none⟩) n cap) none (some (.int .i64 i)) none).run Tryz.prog w = .ok (.slice (some ⟨g, 0, none⟩) i cap) w := by
  have e : Tryz.prog.elem 22 = 90 := by kernel_rfl
  rw [run_slice_h (P := Tryz.prog) (w := w) (t := 22) (a := some ⟨g, 0, none⟩) (len := n) (cap := cap) (by rw [e]; exact Tryz.underlying22) .i64 i (by omega) (by omega), e]
  simp [Tryz.sizeOf90, Result.andThen, sliced, Addr.add]
theorem slice_lhC (g n cap i j : Nat) (w : World) (h : i ≤ j) (hc : j ≤ cap) (hi : i < cap) : (Instr.slice 22 (.slice (some ⟨g, 0, none⟩) n cap) (some (.int .i64 i)) (some (.int .i64 j)) none).run Tryz.prog w = .ok (.slice (some ⟨g, i * 6, none⟩) (j - i) (cap - i)) w := by
  have e : Tryz.prog.elem 22 = 90 := by kernel_rfl
  rw [run_slice_lh (P := Tryz.prog) (w := w) (t := 22) (a := some ⟨g, 0, none⟩) (len := n) (cap := cap) (by rw [e]; exact Tryz.underlying22) .i64 .i64 i j (by omega) (by omega) (by omega), e]
  simp [Tryz.sizeOf90, Result.andThen, sliced, add_at, show ¬ cap = i by omega]

set_option maxRecDepth 100000 in
set_option maxHeartbeats 4000000 in
/-- One row is taken out. -/
theorem deleteC (g cap i : Nat) (l : List R6) (w : World) (h : RB cC 90 w g l cap) (hi : i < l.length) (hn : l.length ≤ 1000000000) (hm : cap ≤ maxLen) :
    Calls Tryz.prog 221 #[.slice (some ⟨g, 0, none⟩) l.length cap, .int .i64 i, .int .i64 ((i : Int) + 1)] w fun e w' => e = .returned (.slice (some ⟨g, 0, none⟩) (l.length - 1) cap) ∧ RB cC 90 w' g (l.take i ++ l.drop (i + 1)) cap ∧ Kep (fun b => b = g) w w' := by
  obtain ⟨n, hnl⟩ : ∃ n, l.length = n := ⟨_, rfl⟩
  have hcap := h.cap
  obtain ⟨sp, hb, hsp⟩ := rb_list c6C h
  rw [hnl] at hi hn hcap hsp ⊢
  unfold maxLen at hm
  obtain ⟨i0, hi0, hz0, hz1, hz2⟩ := info_parts zero_c
  -- what stands behind
  obtain ⟨D, hD, hsrc⟩ : ∃ D : Addr, (if cap = i + 1 then (⟨g, 0, none⟩ : Addr) else ⟨g, (i + 1) * 6, none⟩) = D ∧ Hid (∀ j u, (flat cC (l.drop (i + 1)))[j]? = some u → ∀ W, Bel w W → W.cell? (D.add j) = some u) := by
    by_cases hc : cap = i + 1
    · refine ⟨_, rfl, fun j u hu => ?_⟩
      rw [List.drop_eq_nil_of_le (by omega)] at hu
      simp [flat] at hu
    · refine ⟨⟨g, (i + 1) * 6, none⟩, by rw [if_neg hc], fun j u hu W hW => ?_⟩
      rw [add_at]
      have h1 : (flat cC l ++ sp)[(i + 1) * 6 + j]? = some u := by
        rw [← flat_drop c6C, List.getElem?_drop] at hu
        rw [List.getElem?_append_left (List.getElem?_eq_some_iff.1 hu).1]
        exact hu
      exact (hb.bel hW).cell _ (by simpa using h1)
  have hs1 := fun W => slice_hrC g n cap i W (by omega)
  have hs2 := fun W => slice_lC g n cap (i + 1) W (by omega) hcap
  rw [hD] at hs2
  push_cast at hs2
  have hs3 := fun W => slice_lhC g (i + (n - (i + 1))) cap (i + (n - (i + 1))) n W (by omega) hcap (by omega)
  -- the world behind the append, and behind the clear
  have hlen2 : (flat cC (l.drop (i + 1))).length = (n - (i + 1)) * 6 := by rw [flat_len c6C, List.length_drop, hnl]
  have hap : ∀ W, Bel w W → ∀ ty, (Builtin.append_ #[22, 22] ty #[.slice (some ⟨g, 0, none⟩) i cap, .slice (some D) (n - (i + 1)) (cap - (i + 1))]).run Tryz.prog W = .ok (.slice (some ⟨g, 0, none⟩) (i + (n - (i + 1))) cap) (W.setRow g (flat cC (l.take i) ++ flat cC (l.drop (i + 1)) ++ (flat cC l ++ sp).drop ((n - 1) * 6)).toArray) := fun W hW ty => by
    have hr := run_append_room (P := Tryz.prog) W 22 ty 90 i0 Tryz.underlying22 hi0 g i cap _ (hb.bel hW) D (n - (i + 1)) (cap - (i + 1)) (flat cC (l.drop (i + 1))) (by rw [hz1]; exact hlen2) (fun j u hu => hsrc.out j u hu W hW) (flat_one c6C _) (by omega) (by rw [hz1, hlen2]; simp [flat_len c6C, hsp, hnl]; omega)
    rw [hr, hz1, hlen2]
    congr 3
    have e1 : (flat cC l ++ sp).toArray.toList.take (i * 6) = flat cC (l.take i) := by
      rw [← flat_take c6C]
      exact List.take_append_of_le_length (by rw [flat_len c6C, hnl]; omega)
    rw [e1, show i * 6 + (n - (i + 1)) * 6 = (n - 1) * 6 by omega]
  obtain ⟨X1, hX1⟩ : ∃ X1, X1 = flat cC (l.take i) ++ flat cC (l.drop (i + 1)) ++ (flat cC l ++ sp).drop ((n - 1) * 6) := ⟨_, rfl⟩
  have hX1l : X1.length = cap * 6 := by rw [hX1]; simp [flat_len c6C, hsp, hnl]; omega
  rw [← hX1] at hap
  obtain ⟨X2, hX2⟩ : ∃ X2, X2 = X1.take ((n - 1) * 6) ++ cC (0, 0, 0, 0, 0, 0) ++ X1.drop (n * 6) := ⟨_, rfl⟩
  have hcl : ∀ W, Blk W g X1.toArray 90 → ∀ ty, (Builtin.clear_ #[22] ty #[.slice (some ⟨g, (i + (n - (i + 1))) * 6, none⟩) (n - (i + (n - (i + 1)))) (cap - (i + (n - (i + 1))))]).run Tryz.prog W = .ok (.tuple #[]) (W.setRow g X2.toArray) := fun W hW ty => by
    rw [hX2]
    rw [show n - (i + (n - (i + 1))) = 1 by omega, show i + (n - (i + 1)) = n - 1 by omega]
    rw [run_clear6 W _ _ ty _ (cC (0, 0, 0, 0, 0, 0)) Tryz.underlying22 zero_vC rfl rfl (c6C.one _) g ((n - 1) * 6) _ X1 _ hW (by rw [hX1l]; omega), show (n - 1) * 6 + 6 = n * 6 by omega]
  have HFIN := Lib.hid (show X2 = flat cC (l.take i ++ l.drop (i + 1)) ++ (cC (0, 0, 0, 0, 0, 0) ++ X1.drop (n * 6)) by
    rw [hX2, List.append_assoc]
    congr 1
    rw [hX1, flat_app]
    exact List.take_left' (by simp [flat_len c6C, hnl]; omega))
  have HX1L := Lib.hid hX1l
  have HB := Lib.hid hb
  have HAP := Lib.hid hap
  have HCL := Lib.hid hcl
  have HNL := Lib.hid hnl
  have hin : (i : Int) + 1 ≤ n := by omega
  have hne : ((i : Int) == (i : Int) + 1) = false := by rw [beq_eq_false_iff_ne]; omega
  have hin2 : (n : Int) ≤ cap := by omega
  have HL2 := Lib.hid (show (l.take i ++ l.drop (i + 1)).length = n - 1 by rw [List.length_append, List.length_take, List.length_drop, hnl]; omega)
  clear hX2 hX1 hX1l hb hap hcl hsrc hD hlen2 hsp h hz0 hz1 hz2 hi0
  go_enter Tryz.func221, Tryz.ntmps221
  go_upto_region 5 with fail
  refine wp_region_held_drew (S := fun Vx => Kep (fun b => b = g) w Vx) (by kernel_rfl) (Kep.drew (Kep.refl _ _)) (fun hS0 => ?_)
  have HW6 := Lib.hid (show Bel w w.drew from (Bel.refl _).drew)
  obtain ⟨w6, hw6⟩ : ∃ w6, World.drew w = w6 := ⟨_, rfl⟩
  rw [hw6] at hS0 HW6 ⊢
  clear hw6
  refine ztk 0 { dst := some 20, op := .move (.tmp 0), type := 22, pos := "slices.go:232", after := #[], guard := none } (.slice (some ⟨g, 0, none⟩) n cap) (Or.inl ⟨by rfl, by intro w hSw; clear hSw; go_simp⟩) hS0 ?_
  try simp only [Act.put, zq1, zq2, zq3]
  refine ztk 1 { dst := some 21, op := .move (.tmp 1), type := 3, pos := "slices.go:232", after := #[], guard := none } (.int .i64 i) (Or.inl ⟨by rfl, by intro w hSw; clear hSw; go_simp⟩) hS0 ?_
  try simp only [Act.put, zq1, zq2, zq3]
  refine ztk 2 { dst := some 22, op := .slice 22 (.tmp 20) none (some (.tmp 21)) none, type := 22, pos := "slices.go:232", after := #[{ on := 0, ground := .data }, { on := 1, ground := .data }], guard := none } (.slice (some ⟨g, 0, none⟩) i cap) (Or.inl ⟨by rfl, by intro w hSw; clear hSw; go_simp⟩) hS0 ?_
  try simp only [Act.put, zq1, zq2, zq3]
  refine ztk 3 { dst := some 23, op := .move (.tmp 0), type := 22, pos := "slices.go:232", after := #[], guard := none } (.slice (some ⟨g, 0, none⟩) n cap) (Or.inl ⟨by rfl, by intro w hSw; clear hSw; go_simp⟩) hS0 ?_
  try simp only [Act.put, zq1, zq2, zq3]
  refine ztk 4 { dst := some 24, op := .move (.tmp 2), type := 3, pos := "slices.go:232", after := #[], guard := none } (.int .i64 ((i : Int) + 1)) (Or.inl ⟨by rfl, by intro w hSw; clear hSw; go_simp⟩) hS0 ?_
  try simp only [Act.put, zq1, zq2, zq3]
  refine ztk 5 { dst := some 25, op := .slice 22 (.tmp 23) (some (.tmp 24)) none none, type := 22, pos := "slices.go:232", after := #[{ on := 3, ground := .data }, { on := 4, ground := .data }], guard := none } (.slice (some D) (n - (i + 1)) (cap - (i + 1))) (Or.inl ⟨by rfl, by intro w hSw; clear hSw; go_simp⟩) hS0 ?_
  try simp only [Act.put, zq1, zq2, zq3]
  refine wpAnyH_ready (rs := [6]) (by kernel_rfl) (by simp) ?_
  refine AllReadyH.cons (o := { dst := some 26, op := .call { callee := .builtin .append, args := #[.tmp 22, .tmp 25], argTypes := #[22, 22] }, type := 22, pos := "slices.go:232", after := #[{ on := 2, ground := .data }, { on := 5, ground := .data }], guard := none }) rfl (fun K hK => ?_) AllReadyH.nil
  refine step_append_run rfl (.tmp 22) (.tmp 25) 22 22 rfl _ _ (by simp [Act.eval, Act.put]) (by simp [Act.eval, Act.put]) (HAP.out w6 HW6.out _) ?_
  refine hK.out _ _ (hS0.trans (kep_setRow _ _ _)) (fun hS1 => ?_)
  clear hK K
  try simp only [Act.put, zq1, zq2, zq3]
  refine ztk 7 { dst := some 0, op := .assign (.tmp 26), type := 22, pos := "slices.go:232", after := #[{ on := 6, ground := .data }, { on := 6, ground := .chain }, { on := 0, ground := .phase }, { on := 1, ground := .phase }, { on := 2, ground := .phase }, { on := 3, ground := .phase }, { on := 4, ground := .phase }, { on := 5, ground := .phase }, { on := 6, ground := .phase }], guard := none } (.slice (some ⟨g, 0, none⟩) (i + (n - (i + 1))) cap) (Or.inl ⟨by rfl, by intro w hSw; clear hSw; go_simp⟩) hS1 ?_
  try simp only [Act.put, zq1, zq2, zq3]
  refine wpAnyH_done (by kernel_rfl) ?_ _
  have HE := Lib.hid hS1
  have HB1 := Lib.hid (blk_setRow (HB.out.bel HW6.out) X1.toArray)
  obtain ⟨W1, hW1⟩ : ∃ W1, w6.setRow g X1.toArray = W1 := ⟨_, rfl⟩
  rw [hW1] at HE HB1 ⊢
  clear hW1 hS0
  have hle : ((i + (n - (i + 1)) : Nat) : Int) ≤ n := by omega
  go_wp2_with ((with_reducible refine wpList_clear_run rfl _ 22 rfl _ rfl (HCL.out W1 HB1.out _) ?_))
  go_ret
  refine ⟨by rw [show n - 1 = i + (n - (i + 1)) by omega]; rfl, ?_, HE.out.trans (kep_setRow _ _ _)⟩
  have hB2 := blk_setRow HB1.out X2.toArray
  exact rb_mk c6C (w := W1.setRow g X2.toArray) (by rw [← HFIN.out]; exact hB2) (by rw [HL2.out, List.length_append, List.length_drop, c6C.len, HX1L.out]; omega) (by rw [HL2.out]; omega)

theorem zero_vP (w : World) : (zeroValue 93).run Tryz.prog w = .ok (.agg (cP (0, 0, 0, 0, 0, 0)).toArray) w := by
  obtain ⟨i0, h1, hz0, hz1, hz2⟩ := info_parts zero_p
  simp [zeroValue, typeInfo, h1, hz0]
theorem slice_lP (g n cap i : Nat) (w : World) (h : i ≤ n) (hc : n ≤ cap) : (Instr.slice 23 (.slice (some ⟨g, 0, none⟩) n cap) (some (.int .i64 i)) none none).run Tryz.prog w = .ok (.slice (some (if cap = i then ⟨g, 0, none⟩ else ⟨g, i * 6, none⟩)) (n - i) (cap - i)) w := by
  have e : Tryz.prog.elem 23 = 93 := by kernel_rfl
  rw [run_slice_l (P := Tryz.prog) (w := w) (t := 23) (a := some ⟨g, 0, none⟩) (len := n) (cap := cap) (by rw [e]; exact Tryz.underlying23) .i64 i (by omega) (by omega), e]
  by_cases hh : cap = i
  · simp [Tryz.sizeOf93, Result.andThen, sliced, hh]
  · simp [Tryz.sizeOf93, Result.andThen, sliced, hh, add_at]
theorem slice_hrP (g n cap i : Nat) (w : World) (hc : i ≤ cap) : (Instr.slice 23 (.slice (some ⟨g, 0, none⟩) n cap) none (some (.int .i64 i)) none).run Tryz.prog w = .ok (.slice (some ⟨g, 0, none⟩) i cap) w := by
  have e : Tryz.prog.elem 23 = 93 := by kernel_rfl
  rw [run_slice_h (P := Tryz.prog) (w := w) (t := 23) (a := some ⟨g, 0, none⟩) (len := n) (cap := cap) (by rw [e]; exact Tryz.underlying23) .i64 i (by omega) (by omega), e]
  simp [Tryz.sizeOf93, Result.andThen, sliced, Addr.add]
theorem slice_lhP (g n cap i j : Nat) (w : World) (h : i ≤ j) (hc : j ≤ cap) (hi : i < cap) : (Instr.slice 23 (.slice (some ⟨g, 0, none⟩) n cap) (some (.int .i64 i)) (some (.int .i64 j)) none).run Tryz.prog w = .ok (.slice (some ⟨g, i * 6, none⟩) (j - i) (cap - i)) w := by
  have e : Tryz.prog.elem 23 = 93 := by kernel_rfl
  rw [run_slice_lh (P := Tryz.prog) (w := w) (t := 23) (a := some ⟨g, 0, none⟩) (len := n) (cap := cap) (by rw [e]; exact Tryz.underlying23) .i64 .i64 i j (by omega) (by omega) (by omega), e]
  simp [Tryz.sizeOf93, Result.andThen, sliced, add_at, show ¬ cap = i by omega]

set_option maxRecDepth 100000 in
set_option maxHeartbeats 4000000 in
/-- One row is taken out. -/
theorem deleteP (g cap i : Nat) (l : List R6) (w : World) (h : RB cP 93 w g l cap) (hi : i < l.length) (hn : l.length ≤ 1000000000) (hm : cap ≤ maxLen) :
    Calls Tryz.prog 223 #[.slice (some ⟨g, 0, none⟩) l.length cap, .int .i64 i, .int .i64 ((i : Int) + 1)] w fun e w' => e = .returned (.slice (some ⟨g, 0, none⟩) (l.length - 1) cap) ∧ RB cP 93 w' g (l.take i ++ l.drop (i + 1)) cap ∧ Kep (fun b => b = g) w w' := by
  obtain ⟨n, hnl⟩ : ∃ n, l.length = n := ⟨_, rfl⟩
  have hcap := h.cap
  obtain ⟨sp, hb, hsp⟩ := rb_list c6P h
  rw [hnl] at hi hn hcap hsp ⊢
  unfold maxLen at hm
  obtain ⟨i0, hi0, hz0, hz1, hz2⟩ := info_parts zero_p
  -- what stands behind
  obtain ⟨D, hD, hsrc⟩ : ∃ D : Addr, (if cap = i + 1 then (⟨g, 0, none⟩ : Addr) else ⟨g, (i + 1) * 6, none⟩) = D ∧ Hid (∀ j u, (flat cP (l.drop (i + 1)))[j]? = some u → ∀ W, Bel w W → W.cell? (D.add j) = some u) := by
    by_cases hc : cap = i + 1
    · refine ⟨_, rfl, fun j u hu => ?_⟩
      rw [List.drop_eq_nil_of_le (by omega)] at hu
      simp [flat] at hu
    · refine ⟨⟨g, (i + 1) * 6, none⟩, by rw [if_neg hc], fun j u hu W hW => ?_⟩
      rw [add_at]
      have h1 : (flat cP l ++ sp)[(i + 1) * 6 + j]? = some u := by
        rw [← flat_drop c6P, List.getElem?_drop] at hu
        rw [List.getElem?_append_left (List.getElem?_eq_some_iff.1 hu).1]
        exact hu
      exact (hb.bel hW).cell _ (by simpa using h1)
  have hs1 := fun W => slice_hrP g n cap i W (by omega)
  have hs2 := fun W => slice_lP g n cap (i + 1) W (by omega) hcap
  rw [hD] at hs2
  push_cast at hs2
  have hs3 := fun W => slice_lhP g (i + (n - (i + 1))) cap (i + (n - (i + 1))) n W (by omega) hcap (by omega)
  -- the world behind the append, and behind the clear
  have hlen2 : (flat cP (l.drop (i + 1))).length = (n - (i + 1)) * 6 := by rw [flat_len c6P, List.length_drop, hnl]
  have hap : ∀ W, Bel w W → ∀ ty, (Builtin.append_ #[23, 23] ty #[.slice (some ⟨g, 0, none⟩) i cap, .slice (some D) (n - (i + 1)) (cap - (i + 1))]).run Tryz.prog W = .ok (.slice (some ⟨g, 0, none⟩) (i + (n - (i + 1))) cap) (W.setRow g (flat cP (l.take i) ++ flat cP (l.drop (i + 1)) ++ (flat cP l ++ sp).drop ((n - 1) * 6)).toArray) := fun W hW ty => by
    have hr := run_append_room (P := Tryz.prog) W 23 ty 93 i0 Tryz.underlying23 hi0 g i cap _ (hb.bel hW) D (n - (i + 1)) (cap - (i + 1)) (flat cP (l.drop (i + 1))) (by rw [hz1]; exact hlen2) (fun j u hu => hsrc.out j u hu W hW) (flat_one c6P _) (by omega) (by rw [hz1, hlen2]; simp [flat_len c6P, hsp, hnl]; omega)
    rw [hr, hz1, hlen2]
    congr 3
    have e1 : (flat cP l ++ sp).toArray.toList.take (i * 6) = flat cP (l.take i) := by
      rw [← flat_take c6P]
      exact List.take_append_of_le_length (by rw [flat_len c6P, hnl]; omega)
    rw [e1, show i * 6 + (n - (i + 1)) * 6 = (n - 1) * 6 by omega]
  obtain ⟨X1, hX1⟩ : ∃ X1, X1 = flat cP (l.take i) ++ flat cP (l.drop (i + 1)) ++ (flat cP l ++ sp).drop ((n - 1) * 6) := ⟨_, rfl⟩
  have hX1l : X1.length = cap * 6 := by rw [hX1]; simp [flat_len c6P, hsp, hnl]; omega
  rw [← hX1] at hap
  obtain ⟨X2, hX2⟩ : ∃ X2, X2 = X1.take ((n - 1) * 6) ++ cP (0, 0, 0, 0, 0, 0) ++ X1.drop (n * 6) := ⟨_, rfl⟩
  have hcl : ∀ W, Blk W g X1.toArray 93 → ∀ ty, (Builtin.clear_ #[23] ty #[.slice (some ⟨g, (i + (n - (i + 1))) * 6, none⟩) (n - (i + (n - (i + 1)))) (cap - (i + (n - (i + 1))))]).run Tryz.prog W = .ok (.tuple #[]) (W.setRow g X2.toArray) := fun W hW ty => by
    rw [hX2]
    rw [show n - (i + (n - (i + 1))) = 1 by omega, show i + (n - (i + 1)) = n - 1 by omega]
    rw [run_clear6 W _ _ ty _ (cP (0, 0, 0, 0, 0, 0)) Tryz.underlying23 zero_vP rfl rfl (c6P.one _) g ((n - 1) * 6) _ X1 _ hW (by rw [hX1l]; omega), show (n - 1) * 6 + 6 = n * 6 by omega]
  have HFIN := Lib.hid (show X2 = flat cP (l.take i ++ l.drop (i + 1)) ++ (cP (0, 0, 0, 0, 0, 0) ++ X1.drop (n * 6)) by
    rw [hX2, List.append_assoc]
    congr 1
    rw [hX1, flat_app]
    exact List.take_left' (by simp [flat_len c6P, hnl]; omega))
  have HX1L := Lib.hid hX1l
  have HB := Lib.hid hb
  have HAP := Lib.hid hap
  have HCL := Lib.hid hcl
  have HNL := Lib.hid hnl
  have hin : (i : Int) + 1 ≤ n := by omega
  have hne : ((i : Int) == (i : Int) + 1) = false := by rw [beq_eq_false_iff_ne]; omega
  have hin2 : (n : Int) ≤ cap := by omega
  have HL2 := Lib.hid (show (l.take i ++ l.drop (i + 1)).length = n - 1 by rw [List.length_append, List.length_take, List.length_drop, hnl]; omega)
  clear hX2 hX1 hX1l hb hap hcl hsrc hD hlen2 hsp h hz0 hz1 hz2 hi0
  go_enter Tryz.func223, Tryz.ntmps223
  go_upto_region 5 with fail
  refine wp_region_held_drew (S := fun Vx => Kep (fun b => b = g) w Vx) (by kernel_rfl) (Kep.drew (Kep.refl _ _)) (fun hS0 => ?_)
  have HW6 := Lib.hid (show Bel w w.drew from (Bel.refl _).drew)
  obtain ⟨w6, hw6⟩ : ∃ w6, World.drew w = w6 := ⟨_, rfl⟩
  rw [hw6] at hS0 HW6 ⊢
  clear hw6
  refine ztk 0 { dst := some 20, op := .move (.tmp 0), type := 23, pos := "slices.go:232", after := #[], guard := none } (.slice (some ⟨g, 0, none⟩) n cap) (Or.inl ⟨by rfl, by intro w hSw; clear hSw; go_simp⟩) hS0 ?_
  try simp only [Act.put, zq1, zq2, zq3]
  refine ztk 1 { dst := some 21, op := .move (.tmp 1), type := 3, pos := "slices.go:232", after := #[], guard := none } (.int .i64 i) (Or.inl ⟨by rfl, by intro w hSw; clear hSw; go_simp⟩) hS0 ?_
  try simp only [Act.put, zq1, zq2, zq3]
  refine ztk 2 { dst := some 22, op := .slice 23 (.tmp 20) none (some (.tmp 21)) none, type := 23, pos := "slices.go:232", after := #[{ on := 0, ground := .data }, { on := 1, ground := .data }], guard := none } (.slice (some ⟨g, 0, none⟩) i cap) (Or.inl ⟨by rfl, by intro w hSw; clear hSw; go_simp⟩) hS0 ?_
  try simp only [Act.put, zq1, zq2, zq3]
  refine ztk 3 { dst := some 23, op := .move (.tmp 0), type := 23, pos := "slices.go:232", after := #[], guard := none } (.slice (some ⟨g, 0, none⟩) n cap) (Or.inl ⟨by rfl, by intro w hSw; clear hSw; go_simp⟩) hS0 ?_
  try simp only [Act.put, zq1, zq2, zq3]
  refine ztk 4 { dst := some 24, op := .move (.tmp 2), type := 3, pos := "slices.go:232", after := #[], guard := none } (.int .i64 ((i : Int) + 1)) (Or.inl ⟨by rfl, by intro w hSw; clear hSw; go_simp⟩) hS0 ?_
  try simp only [Act.put, zq1, zq2, zq3]
  refine ztk 5 { dst := some 25, op := .slice 23 (.tmp 23) (some (.tmp 24)) none none, type := 23, pos := "slices.go:232", after := #[{ on := 3, ground := .data }, { on := 4, ground := .data }], guard := none } (.slice (some D) (n - (i + 1)) (cap - (i + 1))) (Or.inl ⟨by rfl, by intro w hSw; clear hSw; go_simp⟩) hS0 ?_
  try simp only [Act.put, zq1, zq2, zq3]
  refine wpAnyH_ready (rs := [6]) (by kernel_rfl) (by simp) ?_
  refine AllReadyH.cons (o := { dst := some 26, op := .call { callee := .builtin .append, args := #[.tmp 22, .tmp 25], argTypes := #[23, 23] }, type := 23, pos := "slices.go:232", after := #[{ on := 2, ground := .data }, { on := 5, ground := .data }], guard := none }) rfl (fun K hK => ?_) AllReadyH.nil
  refine step_append_run rfl (.tmp 22) (.tmp 25) 23 23 rfl _ _ (by simp [Act.eval, Act.put]) (by simp [Act.eval, Act.put]) (HAP.out w6 HW6.out _) ?_
  refine hK.out _ _ (hS0.trans (kep_setRow _ _ _)) (fun hS1 => ?_)
  clear hK K
  try simp only [Act.put, zq1, zq2, zq3]
  refine ztk 7 { dst := some 0, op := .assign (.tmp 26), type := 23, pos := "slices.go:232", after := #[{ on := 6, ground := .data }, { on := 6, ground := .chain }, { on := 0, ground := .phase }, { on := 1, ground := .phase }, { on := 2, ground := .phase }, { on := 3, ground := .phase }, { on := 4, ground := .phase }, { on := 5, ground := .phase }, { on := 6, ground := .phase }], guard := none } (.slice (some ⟨g, 0, none⟩) (i + (n - (i + 1))) cap) (Or.inl ⟨by rfl, by intro w hSw; clear hSw; go_simp⟩) hS1 ?_
  try simp only [Act.put, zq1, zq2, zq3]
  refine wpAnyH_done (by kernel_rfl) ?_ _
  have HE := Lib.hid hS1
  have HB1 := Lib.hid (blk_setRow (HB.out.bel HW6.out) X1.toArray)
  obtain ⟨W1, hW1⟩ : ∃ W1, w6.setRow g X1.toArray = W1 := ⟨_, rfl⟩
  rw [hW1] at HE HB1 ⊢
  clear hW1 hS0
  have hle : ((i + (n - (i + 1)) : Nat) : Int) ≤ n := by omega
  go_wp2_with ((with_reducible refine wpList_clear_run rfl _ 23 rfl _ rfl (HCL.out W1 HB1.out _) ?_))
  go_ret
  refine ⟨by rw [show n - 1 = i + (n - (i + 1)) by omega]; rfl, ?_, HE.out.trans (kep_setRow _ _ _)⟩
  have hB2 := blk_setRow HB1.out X2.toArray
  exact rb_mk c6P (w := W1.setRow g X2.toArray) (by rw [← HFIN.out]; exact hB2) (by rw [HL2.out, List.length_append, List.length_drop, c6P.len, HX1L.out]; omega) (by rw [HL2.out]; omega)
end Ho
end Go.Proofs.YtneajcoiemkfbaaGreat
end

section
/-
  What slices.Insert makes of a list of one's own, of classes and of positions: one row put in. Conditions: at most a billion rows; the new row lies in a block of its own.
-/
namespace Go.Proofs.YtneajcoiemkfbaaGreat
open Go.RowKit Go.Shelf
set_option linter.unusedVariables false
set_option linter.unusedSimpArgs false
namespace Ho
open Kk Pm

theorem own_rb {k : R6 → List Value} {t : TypeId} {w : World} {base g cap : Nat} {l : List R6} (h : RB k t w g l cap) (hb : base ≤ g) (hm : cap ≤ maxLen) : OwnR k t w base (.slice (some ⟨g, 0, none⟩) l.length cap) l := by
  obtain ⟨cur, h1, h2, h3⟩ := h.blk
  exact ⟨by rw [← h2]; have := h.cap; simp [h3]; omega, .inr ⟨g, cap, cur, rfl, hb, h1, h.cap, hm, h3, h2⟩⟩
theorem shape_blk {w : World} {g : Nat} {cur : Array Value} {t : TypeId} (h : Blk w g cur t) : w.shape? g = some (t, cur.size) := by
  unfold World.shape?
  rw [show w.heap[g]? = _ from h]
/-- Three pieces. -/
theorem cut3 {α : Type} (P S sp X : List α) (a : Nat) (hP : P.length = a) (hX : X.length = 6) (hS : 6 ≤ S.length + sp.length) :
    ((P ++ S ++ sp).take (a + 6) ++ S ++ (P ++ S ++ sp).drop (a + 6 + S.length)).take a ++ X ++ ((P ++ S ++ sp).take (a + 6) ++ S ++ (P ++ S ++ sp).drop (a + 6 + S.length)).drop (a + 6) = P ++ X ++ S ++ (P ++ S ++ sp).drop (a + 6 + S.length) := by
  have h1 : ((P ++ S ++ sp).take (a + 6)).length = a + 6 := by simp; omega
  obtain ⟨T, hT⟩ : ∃ T, (P ++ S ++ sp).take (a + 6) = T := ⟨_, rfl⟩
  have h2 : T.take a = P := by
    rw [← hT, List.take_take, Nat.min_eq_left (by omega), List.append_assoc, List.take_left' hP]
  rw [hT] at h1 ⊢
  rw [List.append_assoc T, List.take_append_of_le_length (by omega), h2, List.drop_left' h1]
  simp only [List.append_assoc]
theorem cut2 {α : Type} (P Z X S : List α) (a : Nat) (hP : P.length = a) (hX : X.length = 6) (hZ : 6 + S.length ≤ Z.length) :
    ((P ++ Z).take a ++ X ++ (P ++ Z).drop (a + 6)).take (a + 6) ++ S ++ ((P ++ Z).take a ++ X ++ (P ++ Z).drop (a + 6)).drop (a + 6 + S.length) = P ++ X ++ S ++ Z.drop (6 + S.length) := by
  rw [List.take_left' hP, show (P ++ Z).drop (a + 6) = Z.drop 6 by rw [← hP, List.drop_append]; simp]
  rw [List.take_left' (by simp; omega), show (P ++ X ++ Z.drop 6).drop (a + 6 + S.length) = Z.drop (6 + S.length) by
    have : a + 6 + S.length = (P ++ X).length + S.length := by simp; omega
    rw [this, List.drop_append]
    simp [Nat.add_comm]]

theorem slice_ltC (g n cap i : Nat) (w : World) (h : i ≤ n) (hc : i < cap) : (Instr.slice 22 (.slice (some ⟨g, 0, none⟩) n cap) (some (.int .i64 i)) none none).run Tryz.prog w = .ok (.slice (some ⟨g, i * 6, none⟩) (n - i) (cap - i)) w := by
  have e : Tryz.prog.elem 22 = 90 := by kernel_rfl
  rw [run_slice_l (P := Tryz.prog) (w := w) (t := 22) (a := some ⟨g, 0, none⟩) (len := n) (cap := cap) (by rw [e]; exact Tryz.underlying22) .i64 i (by omega) (by omega), e]
  simp [Tryz.sizeOf90, Result.andThen, sliced, add_at, show ¬ cap = i by omega]
theorem overlapsC (w : World) (xb g o : Nat) (X Y : Array Value) (la ca lb cb : Nat) (hx : Blk w xb X 90) (hg : Blk w g Y 90) (hne : xb ≠ g) (hY : Y.size ≠ 0) :
    (callFunc 234 #[.slice (some ⟨xb, 0, none⟩) la ca, .slice (some ⟨g, o, none⟩) lb cb]).run Tryz.prog w = .ok (.value (.bool false)) w := by
  rw [run_callFunc_extern Tryz.func234 (by kernel_rfl) (by kernel_rfl) (by kernel_rfl) (e := Extern.SlicesOverlaps.overlaps #[22, 22] #[4]) (by kernel_rfl),
    Lib.run_overlaps_apart w 22 4 90 Tryz.underlying22 6 (fun w => by simp [Tryz.sizeOf90]) ⟨xb, 0, none⟩ ⟨g, o, none⟩ la ca lb cb hne _ _ _ _ (shape_blk hx) (shape_blk hg) hY (hx.frozen 0) (hx.frozen _)]
  rfl
set_option maxRecDepth 100000 in
set_option maxHeartbeats 4000000 in
/-- Behind all. -/
theorem insert_endC (v : Value) (l : List R6) (x : R6) (base xb : Nat) (w : World) (h : OwnR cC 90 w base v l) (hn : l.length ≤ 1000000000) (hx : Blk w xb (cC x).toArray 90) (hb : base ≤ w.heap.size) :
    Calls Tryz.prog 233 #[v, .int .i64 l.length, .slice (some ⟨xb, 0, none⟩) 1 1] w fun e w' => ∃ v', e = .returned v' ∧ OwnR cC 90 w' base v' (l ++ [x]) ∧ Kep (fun b => v.ownBlock = some b) w w' := by
  obtain ⟨A, c, rfl, hrs, hcm, _⟩ := h.rs c6C
  obtain ⟨n, hnl⟩ : ∃ n, l.length = n := ⟨_, rfl⟩
  have HNL := Lib.hid hnl
  rw [hnl] at h hrs hn ⊢
  have HO := Lib.hid h
  have HX := Lib.hid (show RS cC w (some ⟨xb, 0, none⟩) 1 1 [x] from rs_blk c6C hx rfl (Nat.le_refl _) (by simpa [flat] using List.take_of_length_le (by rw [c6C.len]; exact Nat.le_refl _)))
  have hcap := hrs.cap
  obtain ⟨D, hsl⟩ : ∃ D, ∀ W, (Instr.slice 22 (.slice A n c) (some (.int .i64 n)) none none).run Tryz.prog W = .ok (.slice D (n - n) (c - n)) W := by
    have e : Tryz.prog.elem 22 = 90 := by kernel_rfl
    refine ⟨(if c = n then A else A.map (·.add (n * 6))), fun W => ?_⟩
    rw [run_slice_l (P := Tryz.prog) (w := W) (t := 22) (a := A) (len := n) (cap := c) (by rw [e]; exact Tryz.underlying22) .i64 n (by omega) (by omega), e]
    simp [Tryz.sizeOf90, Result.andThen, sliced]
  clear h hrs hx hnl
  go_enter Tryz.func233, Tryz.ntmps233
  go_wp2_with (at_builtin; refine wpList_append_C rfl _ _ rfl base _ l rfl HO.out (some ⟨xb, 0, none⟩) 1 1 [x] rfl HX.out (by rw [HNL.out]; omega) hb ?_; intro v' w1 hown' hgrow)
  have HO2 := Lib.hid hown'
  have HK := Lib.hid (Kep.grown (S := fun b => (Value.slice A n c).ownBlock = some b) (Kep.refl _ w) hgrow (fun k e _ => e))
  clear hown' hgrow
  go_wp2
  go_ret
  exact ⟨_, rfl, HO2.out, HK.out⟩
set_option maxRecDepth 100000 in
set_option maxHeartbeats 8000000 in
/-- Between others, where there is room. -/
theorem insert_roomC (g cap i : Nat) (l : List R6) (x : R6) (xb : Nat) (w : World) (h : RB cC 90 w g l cap) (hi : i < l.length) (hn : l.length ≤ 1000000000) (hm : cap ≤ maxLen) (hroom : l.length < cap) (hx : Blk w xb (cC x).toArray 90) (hne : xb ≠ g) :
    Calls Tryz.prog 233 #[.slice (some ⟨g, 0, none⟩) l.length cap, .int .i64 i, .slice (some ⟨xb, 0, none⟩) 1 1] w fun e w' => e = .returned (.slice (some ⟨g, 0, none⟩) (l.length + 1) cap) ∧ RB cC 90 w' g (l.take i ++ x :: l.drop i) cap ∧ Kep (fun b => b = g) w w' := by
  obtain ⟨n, hnl⟩ : ∃ n, l.length = n := ⟨_, rfl⟩
  obtain ⟨sp, hb, hsp⟩ := rb_list c6C h
  rw [hnl] at hi hn hroom hsp ⊢
  unfold maxLen at hm
  have hPS : flat cC l = flat cC (l.take i) ++ flat cC (l.drop i) := by rw [← flat_app, List.take_append_drop]
  have hPl : (flat cC (l.take i)).length = i * 6 := by rw [flat_len c6C, List.length_take, hnl]; omega
  have hSl : (flat cC (l.drop i)).length = (n - i) * 6 := by rw [flat_len c6C, List.length_drop, hnl]
  have hXl := c6C.len x
  rw [hPS] at hb
  obtain ⟨P, hP⟩ : ∃ P, flat cC (l.take i) = P := ⟨_, rfl⟩
  obtain ⟨S, hS⟩ : ∃ S, flat cC (l.drop i) = S := ⟨_, rfl⟩
  have hS1 : ∀ u ∈ S, u.oneCell' = true := by rw [← hS]; exact flat_one c6C _
  have HSX := Lib.hid (show flat cC (l.take i ++ x :: l.drop i) = P ++ cC x ++ S by rw [flat_app, ← hP, ← hS]; show _ ++ (cC x ++ flat cC (l.drop i)) = _; rw [List.append_assoc])
  have HLL := Lib.hid (show (l.take i ++ x :: l.drop i).length = n + 1 by simp [hnl]; omega)
  rw [hP] at hb hPl
  rw [hS] at hb hSl
  obtain ⟨Y, hY⟩ : ∃ Y, Y = P ++ S ++ sp := ⟨_, rfl⟩
  have hYl : Y.length = cap * 6 := by rw [hY]; simp [hPl, hSl, hsp]; omega
  obtain ⟨Y1, hY1⟩ : ∃ Y1, Y1 = Y.take (i * 6 + 6) ++ S ++ Y.drop (i * 6 + 6 + S.length) := ⟨_, rfl⟩
  have hY1l : Y1.length = cap * 6 := by rw [hY1]; simp [hYl, hSl]; omega
  obtain ⟨Y2, hY2⟩ : ∃ Y2, Y2 = Y1.take (i * 6) ++ cC x ++ Y1.drop (i * 6 + 6) := ⟨_, rfl⟩
  have HY2 := Lib.hid (show Y2 = flat cC (l.take i ++ x :: l.drop i) ++ Y.drop (i * 6 + 6 + S.length) by
    rw [hY2, hY1, hY, cut3 P S sp (cC x) (i * 6) hPl hXl (by rw [hSl, hsp]; omega), ← HSX.out])
  have hb : Blk w g Y.toArray 90 := by rw [hY]; exact hb
  have hcp1 : ∀ W, Bel w W → ∀ ty, (Builtin.copy_ #[22, 22] ty #[.slice (some ⟨g, (i + 1) * 6, none⟩) (n + 1 - (i + 1)) (cap - (i + 1)), .slice (some ⟨g, i * 6, none⟩) (n + 1 - i) (cap - i)]).run Tryz.prog W = .ok (goInt (n - i : Nat)) (W.setRow g Y1.toArray) := fun W hW ty => by
    have hmin : Nat.min (n + 1 - i) (n + 1 - (i + 1)) = n - i := by show min _ _ = _; omega
    have hr := run_copy6 W 22 22 ty 90 g ((i + 1) * 6) (n + 1 - (i + 1)) (cap - (i + 1)) ⟨g, i * 6, none⟩ (n + 1 - i) (cap - i) Y _ S Tryz.underlying22 info_c (hb.bel hW) (by rw [hmin, hSl]) (fun j u hj => by
      rw [add_at]
      refine (hb.bel hW).cell _ ?_
      have hj2 := (List.getElem?_eq_some_iff.1 hj).1
      rw [List.getElem?_toArray, hY, List.append_assoc, List.getElem?_append_right (by omega), hPl, Nat.add_sub_cancel_left, List.getElem?_append_left hj2]
      exact hj) (by rw [hYl, hSl]; omega) hS1
    rw [hr, hmin, hY1, show (i + 1) * 6 = i * 6 + 6 by omega]
  have hcp2 : ∀ W, Blk W g Y1.toArray 90 → Blk W xb (cC x).toArray 90 → ∀ ty, (Builtin.copy_ #[22, 22] ty #[.slice (some ⟨g, i * 6, none⟩) (n + 1 - i) (cap - i), .slice (some ⟨xb, 0, none⟩) 1 1]).run Tryz.prog W = .ok (goInt (1 : Nat)) (W.setRow g Y2.toArray) := fun W hW hxW ty => by
    have hmin : Nat.min 1 (n + 1 - i) = 1 := by show min _ _ = _; omega
    have hr := run_copy6 W 22 22 ty 90 g (i * 6) (n + 1 - i) (cap - i) ⟨xb, 0, none⟩ 1 1 Y1 _ (cC x) Tryz.underlying22 info_c hW (by rw [hmin, hXl]) (fun j u hj => by
      rw [add_at, Nat.zero_add]
      exact hxW.cell _ (by simpa using hj)) (by rw [hY1l, hXl]; omega) (c6C.one x)
    rw [hr, hmin, hY2, hXl]
  have hov := fun W (hW : Bel w W) lb cb => overlapsC W xb g ((i + 1) * 6) _ _ 1 1 lb cb (hx.bel hW) (hb.bel hW) hne (by simp [hYl]; omega)
  have hov := hov w (Bel.refl _)
  have hs1 := fun W => slice_hrC g n cap (n + 1) W (by omega)
  have hs2 := fun W => slice_ltC g (n + 1) cap (i + 1) W (by omega) (by omega)
  have hs3 := fun W => slice_ltC g (n + 1) cap i W (by omega) (by omega)
  have hs4 := fun W => slice_ltC g n cap i W (by omega) (by omega)
  push_cast at hs1 hs2
  have HCP1 := Lib.hid hcp1
  have HCP2 := Lib.hid hcp2
  have HB := Lib.hid hb
  have HXB := Lib.hid hx
  have HYL := Lib.hid hYl
  have HSL := Lib.hid hSl
  have HNE := Lib.hid hne
  have hin : (i : Int) < n := by omega
  have hie : ((i : Int) == (n : Int)) = false := by rw [beq_eq_false_iff_ne]; omega
  have hroom3 : (n : Int) + 1 ≤ cap := by omega
  have hd : decide ((cap : Int) < (n : Int) + 1) = false := decide_eq_false (by omega)
  clear hcp1 hcp2 hb hx hYl hSl hY hY1 hY1l hY2 hP hS hS1 hPl hPS hXl hne hsp h hnl
  go_enter Tryz.func233, Tryz.ntmps233
  go_upto_region 15 with (simp only [hov])
  have hwr : IntKind.i64.wrap ((i : Int) + 1) = (i : Int) + 1 := IntWalk.i64_in _ ⟨by omega, by omega⟩
  refine wp_region_held_drew (S := fun Vx => Kep (fun b => b = g) w Vx) (by kernel_rfl) (Kep.drew (Kep.refl _ _)) (fun hS0 => ?_)
  have HW6 := Lib.hid (show Bel w w.drew from (Bel.refl _).drew)
  obtain ⟨w6, hw6⟩ : ∃ w6, World.drew w = w6 := ⟨_, rfl⟩
  rw [hw6] at hS0 HW6 ⊢
  clear hw6
  refine ztk 0 { dst := some 69, op := .move (.tmp 0), type := 22, pos := "slices.go:178", after := #[], guard := none } (.slice (some ⟨g, 0, none⟩) (n + 1) cap) (Or.inl ⟨by rfl, by intro w hSw; clear hSw; go_simp⟩) hS0 ?_
  try simp only [Act.put, zq1, zq2, zq3]
  refine ztk 1 { dst := some 70, op := .move (.tmp 1), type := 3, pos := "slices.go:178", after := #[], guard := none } (.int .i64 i) (Or.inl ⟨by rfl, by intro w hSw; clear hSw; go_simp⟩) hS0 ?_
  try simp only [Act.put, zq1, zq2, zq3]
  refine ztk 2 { dst := some 71, op := .move (.tmp 7), type := 3, pos := "slices.go:178", after := #[], guard := none } (.int .i64 1) (Or.inl ⟨by rfl, by intro w hSw; clear hSw; go_simp⟩) hS0 ?_
  try simp only [Act.put, zq1, zq2, zq3]
  refine ztk 3 { dst := some 72, op := .binOp .add 3 (.tmp 70) (.tmp 71) 3, type := 3, pos := "slices.go:178", after := #[{ on := 1, ground := .data }, { on := 2, ground := .data }], guard := none } (.int .i64 ((i : Int) + 1)) (Or.inl ⟨by rfl, by intro w hSw; clear hSw; go_simp⟩) hS0 ?_
  try simp only [Act.put, zq1, zq2, zq3]
  refine ztk 4 { dst := some 73, op := .slice 22 (.tmp 69) (some (.tmp 72)) none none, type := 22, pos := "slices.go:178", after := #[{ on := 0, ground := .data }, { on := 3, ground := .data }], guard := none } (.slice (some ⟨g, (i + 1) * 6, none⟩) (n + 1 - (i + 1)) (cap - (i + 1))) (Or.inl ⟨by rfl, by intro w hSw; clear hSw; go_simp⟩) hS0 ?_
  try simp only [Act.put, zq1, zq2, zq3]
  refine ztk 5 { dst := some 74, op := .move (.tmp 0), type := 22, pos := "slices.go:178", after := #[], guard := none } (.slice (some ⟨g, 0, none⟩) (n + 1) cap) (Or.inl ⟨by rfl, by intro w hSw; clear hSw; go_simp⟩) hS0 ?_
  try simp only [Act.put, zq1, zq2, zq3]
  refine ztk 6 { dst := some 75, op := .move (.tmp 1), type := 3, pos := "slices.go:178", after := #[], guard := none } (.int .i64 i) (Or.inl ⟨by rfl, by intro w hSw; clear hSw; go_simp⟩) hS0 ?_
  try simp only [Act.put, zq1, zq2, zq3]
  refine ztk 7 { dst := some 76, op := .slice 22 (.tmp 74) (some (.tmp 75)) none none, type := 22, pos := "slices.go:178", after := #[{ on := 5, ground := .data }, { on := 6, ground := .data }], guard := none } (.slice (some ⟨g, i * 6, none⟩) (n + 1 - i) (cap - i)) (Or.inl ⟨by rfl, by intro w hSw; clear hSw; go_simp⟩) hS0 ?_
  try simp only [Act.put, zq1, zq2, zq3]
  refine wpAnyH_ready (rs := [8]) (by kernel_rfl) (by simp) ?_
  refine AllReadyH.cons (o := { dst := some 77, op := .call { callee := .builtin .copy, args := #[.tmp 73, .tmp 76], argTypes := #[22, 22] }, type := 3, pos := "slices.go:178", after := #[{ on := 4, ground := .data }, { on := 7, ground := .data }], guard := none }) rfl (fun K hK => ?_) AllReadyH.nil
  refine step_copy_run rfl (.tmp 73) (.tmp 76) 22 22 rfl _ _ (by simp [Act.eval, Act.put]) (by simp [Act.eval, Act.put]) (HCP1.out w6 HW6.out _) ?_
  refine hK.out _ _ (hS0.trans (kep_setRow _ _ _)) (fun hS1 => ?_)
  clear hK K
  try simp only [Act.put, zq1, zq2, zq3]
  refine wpAnyH_done (by kernel_rfl) ?_ _
  have HE := Lib.hid hS1
  have HB1 := Lib.hid (blk_setRow (HB.out.bel HW6.out) Y1.toArray)
  have HX1 := Lib.hid ((HXB.out.bel HW6.out).kep (kep_setRow w6 g Y1.toArray) HNE.out)
  obtain ⟨W1, hW1⟩ : ∃ W1, w6.setRow g Y1.toArray = W1 := ⟨_, rfl⟩
  rw [hW1] at HE HB1 HX1 ⊢
  clear hW1 hS0 hwr
  go_wp2_with ((with_reducible refine wpList_copy_run rfl _ _ 22 22 rfl _ _ rfl rfl (HCP2.out W1 HB1.out HX1.out _) ?_))
  go_ret
  exact ⟨rfl, rb_mk c6C (w := W1.setRow g Y2.toArray) (by rw [← HY2.out]; exact blk_setRow HB1.out _) (by rw [HLL.out, List.length_drop, HYL.out, HSL.out]; omega) (by rw [HLL.out]; omega), HE.out.trans (kep_setRow _ _ _)⟩
set_option maxRecDepth 100000 in
set_option maxHeartbeats 8000000 in
/-- Between others, where there is no room. -/
theorem insert_growC (g cap i : Nat) (l : List R6) (x : R6) (xb : Nat) (w : World) (h : RB cC 90 w g l cap) (hi : i < l.length) (hn : l.length ≤ 1000000000) (hm : cap ≤ maxLen) (hroom : ¬ l.length < cap) (hx : Blk w xb (cC x).toArray 90) :
    Calls Tryz.prog 233 #[.slice (some ⟨g, 0, none⟩) l.length cap, .int .i64 i, .slice (some ⟨xb, 0, none⟩) 1 1] w fun e w' => ∃ g2 cap2, e = .returned (.slice (some ⟨g2, 0, none⟩) (l.length + 1) cap2) ∧ RB cC 90 w' g2 (l.take i ++ x :: l.drop i) cap2 ∧ Bel w w' ∧ w.heap.size ≤ g2 ∧ cap2 ≤ maxLen := by
  obtain ⟨n, hnl⟩ : ∃ n, l.length = n := ⟨_, rfl⟩
  have hcp0 := h.cap
  obtain ⟨sp, hb, hsp⟩ := rb_list c6C h
  rw [hnl] at hi hn hroom hsp hcp0 ⊢
  obtain rfl : cap = n := by omega
  have hspe : sp = [] := List.length_eq_zero_iff.1 (by rw [hsp]; omega)
  subst hspe
  rw [List.append_nil] at hb
  obtain ⟨i0, hi0, hz0, hz1, hz2⟩ := info_parts zero_c
  have hPS : flat cC l = flat cC (l.take i) ++ flat cC (l.drop i) := by rw [← flat_app, List.take_append_drop]
  have hPl : (flat cC (l.take i)).length = i * 6 := by rw [flat_len c6C, List.length_take, hnl]; omega
  have hSl : (flat cC (l.drop i)).length = (cap - i) * 6 := by rw [flat_len c6C, List.length_drop, hnl]
  have hXl := c6C.len x
  rw [hPS] at hb
  obtain ⟨P, hP⟩ : ∃ P, flat cC (l.take i) = P := ⟨_, rfl⟩
  obtain ⟨S, hS⟩ : ∃ S, flat cC (l.drop i) = S := ⟨_, rfl⟩
  have hS1 : ∀ u ∈ S, u.oneCell' = true := by rw [← hS]; exact flat_one c6C _
  have HSX := Lib.hid (show flat cC (l.take i ++ x :: l.drop i) = P ++ cC x ++ S by rw [flat_app, ← hP, ← hS]; show _ ++ (cC x ++ flat cC (l.drop i)) = _; rw [List.append_assoc])
  have HLL := Lib.hid (show (l.take i ++ x :: l.drop i).length = cap + 1 by simp [hnl]; omega)
  rw [hP] at hb hPl
  rw [hS] at hb hSl
  obtain ⟨k, hk⟩ : ∃ k, cap + 1 - i = k := ⟨_, rfl⟩
  have hkk : i + k = cap + 1 := by omega
  have hge := grownCap_ge w (cap + 1) cap 90
  have hle := grownCap_le_maxLen w (cap + 1) cap 90 (by unfold maxLen; omega)
  have hgr : ∀ ty, (Builtin.append_ #[22, 3] ty #[.slice (some ⟨g, 0, none⟩) i cap, .int .i64 k]).run Tryz.prog w = _ := fun ty =>
    Lib.run_append_grow_zeros w 22 3 ty 90 i0 _ .i64 .i64 Tryz.underlying22 Tryz.underlying3 hi0 hz0 (some ⟨g, 0, none⟩) i cap P
      (run_firstCells_some (P := Tryz.prog) w.drew i0.size i ⟨g, 0, none⟩ i cap P (by rw [hz1, hPl]) (fun j u hj => by
        rw [add_at, Nat.zero_add]
        refine (hb.bel ((Bel.refl w).drew)).cell _ ?_
        rw [List.getElem?_toArray, List.getElem?_append_left (List.getElem?_eq_some_iff.1 hj).1]
        exact hj)) k (by omega) (by omega) (by omega) (by omega) (by rw [hz2]; omega) (by rw [hz2]; exact growslice_fits (by omega) (by omega))
  rw [hkk] at hgr
  obtain ⟨c2, hc2⟩ : ∃ c2, grownCap w (cap + 1) cap 90 = c2 := ⟨_, rfl⟩
  rw [hc2] at hgr hge hle
  obtain ⟨Z, hZ⟩ : ∃ Z : List Value, Z = (Builtin.zeroCells (Value.agg (cC (0, 0, 0, 0, 0, 0)).toArray).cells k ++ Builtin.zeroCells (Value.agg (cC (0, 0, 0, 0, 0, 0)).toArray).cells (c2 - (cap + 1))).toList := ⟨_, rfl⟩
  have hZl : Z.length = (c2 - i) * 6 := by
    rw [hZ, Array.length_toList, Array.size_append, size_zeroCells, size_zeroCells]
    show k * (cC (0, 0, 0, 0, 0, 0)).toArray.size + (c2 - (cap + 1)) * (cC (0, 0, 0, 0, 0, 0)).toArray.size = _
    rw [List.size_toArray, c6C.len]
    omega
  have hgr : ∀ ty, (Builtin.append_ #[22, 3] ty #[.slice (some ⟨g, 0, none⟩) i cap, .int .i64 k]).run Tryz.prog w = .ok (.slice (some ⟨w.heap.size, 0, none⟩) (cap + 1) c2) (w.drew.alloc (.cells (P ++ Z).toArray 90)) := fun ty => by
    rw [hgr ty, hZ]
    congr 3
    simp
  obtain ⟨Y0, hY0⟩ : ∃ Y0, Y0 = P ++ Z := ⟨_, rfl⟩
  rw [← hY0] at hgr
  have hY0l : Y0.length = c2 * 6 := by rw [hY0]; simp [hPl, hZl]; omega
  obtain ⟨Y1, hY1⟩ : ∃ Y1, Y1 = Y0.take (i * 6) ++ cC x ++ Y0.drop (i * 6 + 6) := ⟨_, rfl⟩
  have hY1l : Y1.length = c2 * 6 := by rw [hY1]; simp [hY0l, hXl]; omega
  obtain ⟨Y2, hY2⟩ : ∃ Y2, Y2 = Y1.take (i * 6 + 6) ++ S ++ Y1.drop (i * 6 + 6 + S.length) := ⟨_, rfl⟩
  have HY2 := Lib.hid (show Y2 = flat cC (l.take i ++ x :: l.drop i) ++ Z.drop (6 + S.length) by
    rw [hY2, hY1, hY0, cut2 P Z (cC x) S (i * 6) hPl hXl (by rw [hSl, hZl]; omega), ← HSX.out])
  obtain ⟨g2, hg2⟩ : ∃ g2, w.heap.size = g2 := ⟨_, rfl⟩
  rw [hg2] at hgr
  obtain ⟨W0, hW0⟩ : ∃ W0, w.drew.alloc (.cells Y0.toArray 90) = W0 := ⟨_, rfl⟩
  have BW0 : Bel w W0 := by rw [← hW0]; exact ((Bel.refl w).drew).alloc _
  have hb0 : Blk W0 g2 Y0.toArray 90 := by rw [← hW0, ← hg2]; exact Blk.new w.drew _ _
  rw [hW0] at hgr
  have hgg : g ≠ g2 := by have := hb.lt; omega
  have hcp1 : ∀ ty, (Builtin.copy_ #[22, 22] ty #[.slice (some ⟨g2, i * 6, none⟩) (cap + 1 - i) (c2 - i), .slice (some ⟨xb, 0, none⟩) 1 1]).run Tryz.prog W0 = .ok (goInt (1 : Nat)) (W0.setRow g2 Y1.toArray) := fun ty => by
    have hmin : Nat.min 1 (cap + 1 - i) = 1 := by show min _ _ = _; omega
    have hr := run_copy6 W0 22 22 ty 90 g2 (i * 6) (cap + 1 - i) (c2 - i) ⟨xb, 0, none⟩ 1 1 Y0 _ (cC x) Tryz.underlying22 info_c hb0 (by rw [hmin, hXl]) (fun j u hj => by
      rw [add_at, Nat.zero_add]
      exact (hx.bel BW0).cell _ (by simpa using hj)) (by rw [hY0l, hXl]; omega) (c6C.one x)
    rw [hr, hmin, hY1, hXl]
  have hb1 := blk_setRow hb0 Y1.toArray
  have hbg : Blk (W0.setRow g2 Y1.toArray) g (P ++ S).toArray 90 := (hb.bel BW0).kep (kep_setRow W0 g2 _) hgg
  have HK1 := Lib.hid (kep_setRow W0 g2 Y1.toArray)
  obtain ⟨W1, hW1⟩ : ∃ W1, W0.setRow g2 Y1.toArray = W1 := ⟨_, rfl⟩
  rw [hW1] at hcp1 hb1 hbg HK1
  have hcp2 : ∀ W, Bel W1 W → ∀ ty, (Builtin.copy_ #[22, 22] ty #[.slice (some ⟨g2, (i + 1) * 6, none⟩) (cap + 1 - (i + 1)) (c2 - (i + 1)), .slice (some ⟨g, i * 6, none⟩) (cap - i) (cap - i)]).run Tryz.prog W = .ok (goInt (cap - i : Nat)) (W.setRow g2 Y2.toArray) := fun W hW ty => by
    have hmin : Nat.min (cap - i) (cap + 1 - (i + 1)) = cap - i := by show min _ _ = _; omega
    have hr := run_copy6 W 22 22 ty 90 g2 ((i + 1) * 6) (cap + 1 - (i + 1)) (c2 - (i + 1)) ⟨g, i * 6, none⟩ (cap - i) (cap - i) Y1 _ S Tryz.underlying22 info_c (hb1.bel hW) (by rw [hmin, hSl]) (fun j u hj => by
      rw [add_at]
      refine (hbg.bel hW).cell _ ?_
      rw [List.getElem?_toArray, List.getElem?_append_right (by omega), hPl, Nat.add_sub_cancel_left]
      exact hj) (by rw [hY1l, hSl]; omega) hS1
    rw [hr, hmin, hY2, show (i + 1) * 6 = i * 6 + 6 by omega]
  have hs1 := fun W => slice_hrC g cap cap i W (by omega)
  have hs2 := fun W => slice_ltC g2 (cap + 1) c2 i W (by omega) (by omega)
  have hs3 := fun W => slice_ltC g2 (cap + 1) c2 (i + 1) W (by omega) (by omega)
  have hs4 := fun W => slice_ltC g cap cap i W (by omega) (by omega)
  push_cast at hs3
  have hki : (cap : Int) + 1 - (i : Int) = (k : Int) := by omega
  have HCP1 := Lib.hid hcp1
  have HCP2 := Lib.hid hcp2
  have HGR := Lib.hid hgr
  have HB1 := Lib.hid hb1
  have HYL := Lib.hid hZl
  have HSL := Lib.hid hSl
  have HG2 := Lib.hid hg2
  have HBW := Lib.hid BW0
  have HGE := Lib.hid hge
  have HLE := Lib.hid hle
  have hin : (i : Int) < cap := by omega
  have hie : ((i : Int) == (cap : Int)) = false := by rw [beq_eq_false_iff_ne]; omega
  have hd : decide ((cap : Int) < (cap : Int) + 1) = true := decide_eq_true (by omega)
  clear hcp1 hcp2 hb hx hSl hY0 hY0l hY1 hY1l hY2 hP hS hS1 hPl hPS hXl hsp h hnl hgr hb1 hbg hW1 hW0 hb0 BW0 hZ hZl hc2 hge hle hz0 hz1 hz2 hi0 hg2 hm hkk hk hgg hcp0 hroom
  go_enter Tryz.func233, Tryz.ntmps233
  go_upto_region 11 with (first | (at_builtin; refine Lib.wpList_append_run _ rfl _ _ _ _ rfl _ _ rfl rfl _ _ (HGR.out _) ?_) | ((with_reducible refine wpList_copy_run rfl _ _ 22 22 rfl _ _ rfl rfl (HCP1.out _) ?_)))
  have hwr : IntKind.i64.wrap ((i : Int) + 1) = (i : Int) + 1 := IntWalk.i64_in _ ⟨by omega, by omega⟩
  refine wp_region_held_drew (S := fun Vx => Kep (fun b => b = g2) W1 Vx) (by kernel_rfl) (Kep.drew (Kep.refl _ _)) (fun hS0 => ?_)
  have HW6 := Lib.hid (show Bel W1 W1.drew from (Bel.refl _).drew)
  obtain ⟨w6, hw6⟩ : ∃ w6, World.drew W1 = w6 := ⟨_, rfl⟩
  rw [hw6] at hS0 HW6 ⊢
  clear hw6
  refine ztk 0 { dst := some 46, op := .move (.tmp 9), type := 22, pos := "slices.go:154", after := #[], guard := none } (.slice (some ⟨g2, 0, none⟩) (cap + 1) c2) (Or.inl ⟨by rfl, by intro w hSw; clear hSw; go_simp⟩) hS0 ?_
  try simp only [Act.put, zq1, zq2, zq3]
  refine ztk 1 { dst := some 47, op := .move (.tmp 1), type := 3, pos := "slices.go:154", after := #[], guard := none } (.int .i64 i) (Or.inl ⟨by rfl, by intro w hSw; clear hSw; go_simp⟩) hS0 ?_
  try simp only [Act.put, zq1, zq2, zq3]
  refine ztk 2 { dst := some 48, op := .move (.tmp 7), type := 3, pos := "slices.go:154", after := #[], guard := none } (.int .i64 1) (Or.inl ⟨by rfl, by intro w hSw; clear hSw; go_simp⟩) hS0 ?_
  try simp only [Act.put, zq1, zq2, zq3]
  refine ztk 3 { dst := some 49, op := .binOp .add 3 (.tmp 47) (.tmp 48) 3, type := 3, pos := "slices.go:154", after := #[{ on := 1, ground := .data }, { on := 2, ground := .data }], guard := none } (.int .i64 ((i : Int) + 1)) (Or.inl ⟨by rfl, by intro w hSw; clear hSw; go_simp⟩) hS0 ?_
  try simp only [Act.put, zq1, zq2, zq3]
  refine ztk 4 { dst := some 50, op := .slice 22 (.tmp 46) (some (.tmp 49)) none none, type := 22, pos := "slices.go:154", after := #[{ on := 0, ground := .data }, { on := 3, ground := .data }], guard := none } (.slice (some ⟨g2, (i + 1) * 6, none⟩) (cap + 1 - (i + 1)) (c2 - (i + 1))) (Or.inl ⟨by rfl, by intro w hSw; clear hSw; go_simp⟩) hS0 ?_
  try simp only [Act.put, zq1, zq2, zq3]
  refine ztk 5 { dst := some 51, op := .move (.tmp 0), type := 22, pos := "slices.go:154", after := #[], guard := none } (.slice (some ⟨g, 0, none⟩) cap cap) (Or.inl ⟨by rfl, by intro w hSw; clear hSw; go_simp⟩) hS0 ?_
  try simp only [Act.put, zq1, zq2, zq3]
  refine ztk 6 { dst := some 52, op := .move (.tmp 1), type := 3, pos := "slices.go:154", after := #[], guard := none } (.int .i64 i) (Or.inl ⟨by rfl, by intro w hSw; clear hSw; go_simp⟩) hS0 ?_
  try simp only [Act.put, zq1, zq2, zq3]
  refine ztk 7 { dst := some 53, op := .slice 22 (.tmp 51) (some (.tmp 52)) none none, type := 22, pos := "slices.go:154", after := #[{ on := 5, ground := .data }, { on := 6, ground := .data }], guard := none } (.slice (some ⟨g, i * 6, none⟩) (cap - i) (cap - i)) (Or.inl ⟨by rfl, by intro w hSw; clear hSw; go_simp⟩) hS0 ?_
  try simp only [Act.put, zq1, zq2, zq3]
  refine wpAnyH_ready (rs := [8]) (by kernel_rfl) (by simp) ?_
  refine AllReadyH.cons (o := { dst := some 54, op := .call { callee := .builtin .copy, args := #[.tmp 50, .tmp 53], argTypes := #[22, 22] }, type := 3, pos := "slices.go:154", after := #[{ on := 4, ground := .data }, { on := 7, ground := .data }], guard := none }) rfl (fun K hK => ?_) AllReadyH.nil
  refine step_copy_run rfl (.tmp 50) (.tmp 53) 22 22 rfl _ _ (by simp [Act.eval, Act.put]) (by simp [Act.eval, Act.put]) (HCP2.out w6 HW6.out _) ?_
  refine hK.out _ _ (hS0.trans (kep_setRow _ _ _)) (fun hS1 => ?_)
  clear hK K
  try simp only [Act.put, zq1, zq2, zq3]
  refine wpAnyH_done (by kernel_rfl) ?_ _
  have HE := Lib.hid hS1
  have HB2 := Lib.hid (blk_setRow (HB1.out.bel HW6.out) Y2.toArray)
  obtain ⟨W2, hW2⟩ : ∃ W2, w6.setRow g2 Y2.toArray = W2 := ⟨_, rfl⟩
  rw [hW2] at HE HB2 ⊢
  clear hW2 hS0 hwr
  go_wp2_with fail
  go_ret
  exact ⟨g2, c2, rfl, rb_mk c6C (w := W2) (by rw [← HY2.out]; exact HB2.out) (by rw [HLL.out, List.length_drop, HYL.out, HSL.out]; omega) (by rw [HLL.out]; exact HGE.out), Kep.bel HBW.out (HK1.out.trans HE.out) (fun k e => by rw [e, ← HG2.out]; exact Nat.le_refl _), by rw [HG2.out]; exact Nat.le_refl _, HLE.out⟩

theorem slice_ltP (g n cap i : Nat) (w : World) (h : i ≤ n) (hc : i < cap) : (Instr.slice 23 (.slice (some ⟨g, 0, none⟩) n cap) (some (.int .i64 i)) none none).run Tryz.prog w = .ok (.slice (some ⟨g, i * 6, none⟩) (n - i) (cap - i)) w := by
  have e : Tryz.prog.elem 23 = 93 := by kernel_rfl
  rw [run_slice_l (P := Tryz.prog) (w := w) (t := 23) (a := some ⟨g, 0, none⟩) (len := n) (cap := cap) (by rw [e]; exact Tryz.underlying23) .i64 i (by omega) (by omega), e]
  simp [Tryz.sizeOf93, Result.andThen, sliced, add_at, show ¬ cap = i by omega]
theorem overlapsP (w : World) (xb g o : Nat) (X Y : Array Value) (la ca lb cb : Nat) (hx : Blk w xb X 93) (hg : Blk w g Y 93) (hne : xb ≠ g) (hY : Y.size ≠ 0) :
    (callFunc 238 #[.slice (some ⟨xb, 0, none⟩) la ca, .slice (some ⟨g, o, none⟩) lb cb]).run Tryz.prog w = .ok (.value (.bool false)) w := by
  rw [run_callFunc_extern Tryz.func238 (by kernel_rfl) (by kernel_rfl) (by kernel_rfl) (e := Extern.SlicesOverlaps.overlaps #[23, 23] #[4]) (by kernel_rfl),
    Lib.run_overlaps_apart w 23 4 93 Tryz.underlying23 6 (fun w => by simp [Tryz.sizeOf93]) ⟨xb, 0, none⟩ ⟨g, o, none⟩ la ca lb cb hne _ _ _ _ (shape_blk hx) (shape_blk hg) hY (hx.frozen 0) (hx.frozen _)]
  rfl
set_option maxRecDepth 100000 in
set_option maxHeartbeats 4000000 in
/-- Behind all. -/
theorem insert_endP (v : Value) (l : List R6) (x : R6) (base xb : Nat) (w : World) (h : OwnR cP 93 w base v l) (hn : l.length ≤ 1000000000) (hx : Blk w xb (cP x).toArray 93) (hb : base ≤ w.heap.size) :
    Calls Tryz.prog 237 #[v, .int .i64 l.length, .slice (some ⟨xb, 0, none⟩) 1 1] w fun e w' => ∃ v', e = .returned v' ∧ OwnR cP 93 w' base v' (l ++ [x]) ∧ Kep (fun b => v.ownBlock = some b) w w' := by
  obtain ⟨A, c, rfl, hrs, hcm, _⟩ := h.rs c6P
  obtain ⟨n, hnl⟩ : ∃ n, l.length = n := ⟨_, rfl⟩
  have HNL := Lib.hid hnl
  rw [hnl] at h hrs hn ⊢
  have HO := Lib.hid h
  have HX := Lib.hid (show RS cP w (some ⟨xb, 0, none⟩) 1 1 [x] from rs_blk c6P hx rfl (Nat.le_refl _) (by simpa [flat] using List.take_of_length_le (by rw [c6P.len]; exact Nat.le_refl _)))
  have hcap := hrs.cap
  obtain ⟨D, hsl⟩ : ∃ D, ∀ W, (Instr.slice 23 (.slice A n c) (some (.int .i64 n)) none none).run Tryz.prog W = .ok (.slice D (n - n) (c - n)) W := by
    have e : Tryz.prog.elem 23 = 93 := by kernel_rfl
    refine ⟨(if c = n then A else A.map (·.add (n * 6))), fun W => ?_⟩
    rw [run_slice_l (P := Tryz.prog) (w := W) (t := 23) (a := A) (len := n) (cap := c) (by rw [e]; exact Tryz.underlying23) .i64 n (by omega) (by omega), e]
    simp [Tryz.sizeOf93, Result.andThen, sliced]
  clear h hrs hx hnl
  go_enter Tryz.func237, Tryz.ntmps237
  go_wp2_with (at_builtin; refine wpList_append_P rfl _ _ rfl base _ l rfl HO.out (some ⟨xb, 0, none⟩) 1 1 [x] rfl HX.out (by rw [HNL.out]; omega) hb ?_; intro v' w1 hown' hgrow)
  have HO2 := Lib.hid hown'
  have HK := Lib.hid (Kep.grown (S := fun b => (Value.slice A n c).ownBlock = some b) (Kep.refl _ w) hgrow (fun k e _ => e))
  clear hown' hgrow
  go_wp2
  go_ret
  exact ⟨_, rfl, HO2.out, HK.out⟩
set_option maxRecDepth 100000 in
set_option maxHeartbeats 8000000 in
/-- Between others, where there is room. -/
theorem insert_roomP (g cap i : Nat) (l : List R6) (x : R6) (xb : Nat) (w : World) (h : RB cP 93 w g l cap) (hi : i < l.length) (hn : l.length ≤ 1000000000) (hm : cap ≤ maxLen) (hroom : l.length < cap) (hx : Blk w xb (cP x).toArray 93) (hne : xb ≠ g) :
    Calls Tryz.prog 237 #[.slice (some ⟨g, 0, none⟩) l.length cap, .int .i64 i, .slice (some ⟨xb, 0, none⟩) 1 1] w fun e w' => e = .returned (.slice (some ⟨g, 0, none⟩) (l.length + 1) cap) ∧ RB cP 93 w' g (l.take i ++ x :: l.drop i) cap ∧ Kep (fun b => b = g) w w' := by
  obtain ⟨n, hnl⟩ : ∃ n, l.length = n := ⟨_, rfl⟩
  obtain ⟨sp, hb, hsp⟩ := rb_list c6P h
  rw [hnl] at hi hn hroom hsp ⊢
  unfold maxLen at hm
  have hPS : flat cP l = flat cP (l.take i) ++ flat cP (l.drop i) := by rw [← flat_app, List.take_append_drop]
  have hPl : (flat cP (l.take i)).length = i * 6 := by rw [flat_len c6P, List.length_take, hnl]; omega
  have hSl : (flat cP (l.drop i)).length = (n - i) * 6 := by rw [flat_len c6P, List.length_drop, hnl]
  have hXl := c6P.len x
  rw [hPS] at hb
  obtain ⟨P, hP⟩ : ∃ P, flat cP (l.take i) = P := ⟨_, rfl⟩
  obtain ⟨S, hS⟩ : ∃ S, flat cP (l.drop i) = S := ⟨_, rfl⟩
  have hS1 : ∀ u ∈ S, u.oneCell' = true := by rw [← hS]; exact flat_one c6P _
  have HSX := Lib.hid (show flat cP (l.take i ++ x :: l.drop i) = P ++ cP x ++ S by rw [flat_app, ← hP, ← hS]; show _ ++ (cP x ++ flat cP (l.drop i)) = _; rw [List.append_assoc])
  have HLL := Lib.hid (show (l.take i ++ x :: l.drop i).length = n + 1 by simp [hnl]; omega)
  rw [hP] at hb hPl
  rw [hS] at hb hSl
  obtain ⟨Y, hY⟩ : ∃ Y, Y = P ++ S ++ sp := ⟨_, rfl⟩
  have hYl : Y.length = cap * 6 := by rw [hY]; simp [hPl, hSl, hsp]; omega
  obtain ⟨Y1, hY1⟩ : ∃ Y1, Y1 = Y.take (i * 6 + 6) ++ S ++ Y.drop (i * 6 + 6 + S.length) := ⟨_, rfl⟩
  have hY1l : Y1.length = cap * 6 := by rw [hY1]; simp [hYl, hSl]; omega
  obtain ⟨Y2, hY2⟩ : ∃ Y2, Y2 = Y1.take (i * 6) ++ cP x ++ Y1.drop (i * 6 + 6) := ⟨_, rfl⟩
  have HY2 := Lib.hid (show Y2 = flat cP (l.take i ++ x :: l.drop i) ++ Y.drop (i * 6 + 6 + S.length) by
    rw [hY2, hY1, hY, cut3 P S sp (cP x) (i * 6) hPl hXl (by rw [hSl, hsp]; omega), ← HSX.out])
  have hb : Blk w g Y.toArray 93 := by rw [hY]; exact hb
  have hcp1 : ∀ W, Bel w W → ∀ ty, (Builtin.copy_ #[23, 23] ty #[.slice (some ⟨g, (i + 1) * 6, none⟩) (n + 1 - (i + 1)) (cap - (i + 1)), .slice (some ⟨g, i * 6, none⟩) (n + 1 - i) (cap - i)]).run Tryz.prog W = .ok (goInt (n - i : Nat)) (W.setRow g Y1.toArray) := fun W hW ty => by
    have hmin : Nat.min (n + 1 - i) (n + 1 - (i + 1)) = n - i := by show min _ _ = _; omega
    have hr := run_copy6 W 23 23 ty 93 g ((i + 1) * 6) (n + 1 - (i + 1)) (cap - (i + 1)) ⟨g, i * 6, none⟩ (n + 1 - i) (cap - i) Y _ S Tryz.underlying23 info_p (hb.bel hW) (by rw [hmin, hSl]) (fun j u hj => by
      rw [add_at]
      refine (hb.bel hW).cell _ ?_
      have hj2 := (List.getElem?_eq_some_iff.1 hj).1
      rw [List.getElem?_toArray, hY, List.append_assoc, List.getElem?_append_right (by omega), hPl, Nat.add_sub_cancel_left, List.getElem?_append_left hj2]
      exact hj) (by rw [hYl, hSl]; omega) hS1
    rw [hr, hmin, hY1, show (i + 1) * 6 = i * 6 + 6 by omega]
  have hcp2 : ∀ W, Blk W g Y1.toArray 93 → Blk W xb (cP x).toArray 93 → ∀ ty, (Builtin.copy_ #[23, 23] ty #[.slice (some ⟨g, i * 6, none⟩) (n + 1 - i) (cap - i), .slice (some ⟨xb, 0, none⟩) 1 1]).run Tryz.prog W = .ok (goInt (1 : Nat)) (W.setRow g Y2.toArray) := fun W hW hxW ty => by
    have hmin : Nat.min 1 (n + 1 - i) = 1 := by show min _ _ = _; omega
    have hr := run_copy6 W 23 23 ty 93 g (i * 6) (n + 1 - i) (cap - i) ⟨xb, 0, none⟩ 1 1 Y1 _ (cP x) Tryz.underlying23 info_p hW (by rw [hmin, hXl]) (fun j u hj => by
      rw [add_at, Nat.zero_add]
      exact hxW.cell _ (by simpa using hj)) (by rw [hY1l, hXl]; omega) (c6P.one x)
    rw [hr, hmin, hY2, hXl]
  have hov := fun W (hW : Bel w W) lb cb => overlapsP W xb g ((i + 1) * 6) _ _ 1 1 lb cb (hx.bel hW) (hb.bel hW) hne (by simp [hYl]; omega)
  have hov := hov w (Bel.refl _)
  have hs1 := fun W => slice_hrP g n cap (n + 1) W (by omega)
  have hs2 := fun W => slice_ltP g (n + 1) cap (i + 1) W (by omega) (by omega)
  have hs3 := fun W => slice_ltP g (n + 1) cap i W (by omega) (by omega)
  have hs4 := fun W => slice_ltP g n cap i W (by omega) (by omega)
  push_cast at hs1 hs2
  have HCP1 := Lib.hid hcp1
  have HCP2 := Lib.hid hcp2
  have HB := Lib.hid hb
  have HXB := Lib.hid hx
  have HYL := Lib.hid hYl
  have HSL := Lib.hid hSl
  have HNE := Lib.hid hne
  have hin : (i : Int) < n := by omega
  have hie : ((i : Int) == (n : Int)) = false := by rw [beq_eq_false_iff_ne]; omega
  have hroom3 : (n : Int) + 1 ≤ cap := by omega
  have hd : decide ((cap : Int) < (n : Int) + 1) = false := decide_eq_false (by omega)
  clear hcp1 hcp2 hb hx hYl hSl hY hY1 hY1l hY2 hP hS hS1 hPl hPS hXl hne hsp h hnl
  go_enter Tryz.func237, Tryz.ntmps237
  go_upto_region 15 with (simp only [hov])
  have hwr : IntKind.i64.wrap ((i : Int) + 1) = (i : Int) + 1 := IntWalk.i64_in _ ⟨by omega, by omega⟩
  refine wp_region_held_drew (S := fun Vx => Kep (fun b => b = g) w Vx) (by kernel_rfl) (Kep.drew (Kep.refl _ _)) (fun hS0 => ?_)
  have HW6 := Lib.hid (show Bel w w.drew from (Bel.refl _).drew)
  obtain ⟨w6, hw6⟩ : ∃ w6, World.drew w = w6 := ⟨_, rfl⟩
  rw [hw6] at hS0 HW6 ⊢
  clear hw6
  refine ztk 0 { dst := some 69, op := .move (.tmp 0), type := 23, pos := "slices.go:178", after := #[], guard := none } (.slice (some ⟨g, 0, none⟩) (n + 1) cap) (Or.inl ⟨by rfl, by intro w hSw; clear hSw; go_simp⟩) hS0 ?_
  try simp only [Act.put, zq1, zq2, zq3]
  refine ztk 1 { dst := some 70, op := .move (.tmp 1), type := 3, pos := "slices.go:178", after := #[], guard := none } (.int .i64 i) (Or.inl ⟨by rfl, by intro w hSw; clear hSw; go_simp⟩) hS0 ?_
  try simp only [Act.put, zq1, zq2, zq3]
  refine ztk 2 { dst := some 71, op := .move (.tmp 7), type := 3, pos := "slices.go:178", after := #[], guard := none } (.int .i64 1) (Or.inl ⟨by rfl, by intro w hSw; clear hSw; go_simp⟩) hS0 ?_
  try simp only [Act.put, zq1, zq2, zq3]
  refine ztk 3 { dst := some 72, op := .binOp .add 3 (.tmp 70) (.tmp 71) 3, type := 3, pos := "slices.go:178", after := #[{ on := 1, ground := .data }, { on := 2, ground := .data }], guard := none } (.int .i64 ((i : Int) + 1)) (Or.inl ⟨by rfl, by intro w hSw; clear hSw; go_simp⟩) hS0 ?_
  try simp only [Act.put, zq1, zq2, zq3]
  refine ztk 4 { dst := some 73, op := .slice 23 (.tmp 69) (some (.tmp 72)) none none, type := 23, pos := "slices.go:178", after := #[{ on := 0, ground := .data }, { on := 3, ground := .data }], guard := none } (.slice (some ⟨g, (i + 1) * 6, none⟩) (n + 1 - (i + 1)) (cap - (i + 1))) (Or.inl ⟨by rfl, by intro w hSw; clear hSw; go_simp⟩) hS0 ?_
  try simp only [Act.put, zq1, zq2, zq3]
  refine ztk 5 { dst := some 74, op := .move (.tmp 0), type := 23, pos := "slices.go:178", after := #[], guard := none } (.slice (some ⟨g, 0, none⟩) (n + 1) cap) (Or.inl ⟨by rfl, by intro w hSw; clear hSw; go_simp⟩) hS0 ?_
  try simp only [Act.put, zq1, zq2, zq3]
  refine ztk 6 { dst := some 75, op := .move (.tmp 1), type := 3, pos := "slices.go:178", after := #[], guard := none } (.int .i64 i) (Or.inl ⟨by rfl, by intro w hSw; clear hSw; go_simp⟩) hS0 ?_
  try simp only [Act.put, zq1, zq2, zq3]
  refine ztk 7 { dst := some 76, op := .slice 23 (.tmp 74) (some (.tmp 75)) none none, type := 23, pos := "slices.go:178", after := #[{ on := 5, ground := .data }, { on := 6, ground := .data }], guard := none } (.slice (some ⟨g, i * 6, none⟩) (n + 1 - i) (cap - i)) (Or.inl ⟨by rfl, by intro w hSw; clear hSw; go_simp⟩) hS0 ?_
  try simp only [Act.put, zq1, zq2, zq3]
  refine wpAnyH_ready (rs := [8]) (by kernel_rfl) (by simp) ?_
  refine AllReadyH.cons (o := { dst := some 77, op := .call { callee := .builtin .copy, args := #[.tmp 73, .tmp 76], argTypes := #[23, 23] }, type := 3, pos := "slices.go:178", after := #[{ on := 4, ground := .data }, { on := 7, ground := .data }], guard := none }) rfl (fun K hK => ?_) AllReadyH.nil
  refine step_copy_run rfl (.tmp 73) (.tmp 76) 23 23 rfl _ _ (by simp [Act.eval, Act.put]) (by simp [Act.eval, Act.put]) (HCP1.out w6 HW6.out _) ?_
  refine hK.out _ _ (hS0.trans (kep_setRow _ _ _)) (fun hS1 => ?_)
  clear hK K
  try simp only [Act.put, zq1, zq2, zq3]
  refine wpAnyH_done (by kernel_rfl) ?_ _
  have HE := Lib.hid hS1
  have HB1 := Lib.hid (blk_setRow (HB.out.bel HW6.out) Y1.toArray)
  have HX1 := Lib.hid ((HXB.out.bel HW6.out).kep (kep_setRow w6 g Y1.toArray) HNE.out)
  obtain ⟨W1, hW1⟩ : ∃ W1, w6.setRow g Y1.toArray = W1 := ⟨_, rfl⟩
  rw [hW1] at HE HB1 HX1 ⊢
  clear hW1 hS0 hwr
  go_wp2_with ((with_reducible refine wpList_copy_run rfl _ _ 23 23 rfl _ _ rfl rfl (HCP2.out W1 HB1.out HX1.out _) ?_))
  go_ret
  exact ⟨rfl, rb_mk c6P (w := W1.setRow g Y2.toArray) (by rw [← HY2.out]; exact blk_setRow HB1.out _) (by rw [HLL.out, List.length_drop, HYL.out, HSL.out]; omega) (by rw [HLL.out]; omega), HE.out.trans (kep_setRow _ _ _)⟩
set_option maxRecDepth 100000 in
set_option maxHeartbeats 8000000 in
/-- Between others, where there is no room. -/
theorem insert_growP (g cap i : Nat) (l : List R6) (x : R6) (xb : Nat) (w : World) (h : RB cP 93 w g l cap) (hi : i < l.length) (hn : l.length ≤ 1000000000) (hm : cap ≤ maxLen) (hroom : ¬ l.length < cap) (hx : Blk w xb (cP x).toArray 93) :
    Calls Tryz.prog 237 #[.slice (some ⟨g, 0, none⟩) l.length cap, .int .i64 i, .slice (some ⟨xb, 0, none⟩) 1 1] w fun e w' => ∃ g2 cap2, e = .returned (.slice (some ⟨g2, 0, none⟩) (l.length + 1) cap2) ∧ RB cP 93 w' g2 (l.take i ++ x :: l.drop i) cap2 ∧ Bel w w' ∧ w.heap.size ≤ g2 ∧ cap2 ≤ maxLen := by
  obtain ⟨n, hnl⟩ : ∃ n, l.length = n := ⟨_, rfl⟩
  have hcp0 := h.cap
  obtain ⟨sp, hb, hsp⟩ := rb_list c6P h
  rw [hnl] at hi hn hroom hsp hcp0 ⊢
  obtain rfl : cap = n := by omega
  have hspe : sp = [] := List.length_eq_zero_iff.1 (by rw [hsp]; omega)
  subst hspe
  rw [List.append_nil] at hb
  obtain ⟨i0, hi0, hz0, hz1, hz2⟩ := info_parts zero_p
  have hPS : flat cP l = flat cP (l.take i) ++ flat cP (l.drop i) := by rw [← flat_app, List.take_append_drop]
  have hPl : (flat cP (l.take i)).length = i * 6 := by rw [flat_len c6P, List.length_take, hnl]; omega
  have hSl : (flat cP (l.drop i)).length = (cap - i) * 6 := by rw [flat_len c6P, List.length_drop, hnl]
  have hXl := c6P.len x
  rw [hPS] at hb
  obtain ⟨P, hP⟩ : ∃ P, flat cP (l.take i) = P := ⟨_, rfl⟩
  obtain ⟨S, hS⟩ : ∃ S, flat cP (l.drop i) = S := ⟨_, rfl⟩
  have hS1 : ∀ u ∈ S, u.oneCell' = true := by rw [← hS]; exact flat_one c6P _
  have HSX := Lib.hid (show flat cP (l.take i ++ x :: l.drop i) = P ++ cP x ++ S by rw [flat_app, ← hP, ← hS]; show _ ++ (cP x ++ flat cP (l.drop i)) = _; rw [List.append_assoc])
  have HLL := Lib.hid (show (l.take i ++ x :: l.drop i).length = cap + 1 by simp [hnl]; omega)
  rw [hP] at hb hPl
  rw [hS] at hb hSl
  obtain ⟨k, hk⟩ : ∃ k, cap + 1 - i = k := ⟨_, rfl⟩
  have hkk : i + k = cap + 1 := by omega
  have hge := grownCap_ge w (cap + 1) cap 93
  have hle := grownCap_le_maxLen w (cap + 1) cap 93 (by unfold maxLen; omega)
  have hgr : ∀ ty, (Builtin.append_ #[23, 3] ty #[.slice (some ⟨g, 0, none⟩) i cap, .int .i64 k]).run Tryz.prog w = _ := fun ty =>
    Lib.run_append_grow_zeros w 23 3 ty 93 i0 _ .i64 .i64 Tryz.underlying23 Tryz.underlying3 hi0 hz0 (some ⟨g, 0, none⟩) i cap P
      (run_firstCells_some (P := Tryz.prog) w.drew i0.size i ⟨g, 0, none⟩ i cap P (by rw [hz1, hPl]) (fun j u hj => by
        rw [add_at, Nat.zero_add]
        refine (hb.bel ((Bel.refl w).drew)).cell _ ?_
        rw [List.getElem?_toArray, List.getElem?_append_left (List.getElem?_eq_some_iff.1 hj).1]
        exact hj)) k (by omega) (by omega) (by omega) (by omega) (by rw [hz2]; omega) (by rw [hz2]; exact growslice_fits (by omega) (by omega))
  rw [hkk] at hgr
  obtain ⟨c2, hc2⟩ : ∃ c2, grownCap w (cap + 1) cap 93 = c2 := ⟨_, rfl⟩
  rw [hc2] at hgr hge hle
  obtain ⟨Z, hZ⟩ : ∃ Z : List Value, Z = (Builtin.zeroCells (Value.agg (cP (0, 0, 0, 0, 0, 0)).toArray).cells k ++ Builtin.zeroCells (Value.agg (cP (0, 0, 0, 0, 0, 0)).toArray).cells (c2 - (cap + 1))).toList := ⟨_, rfl⟩
  have hZl : Z.length = (c2 - i) * 6 := by
    rw [hZ, Array.length_toList, Array.size_append, size_zeroCells, size_zeroCells]
    show k * (cP (0, 0, 0, 0, 0, 0)).toArray.size + (c2 - (cap + 1)) * (cP (0, 0, 0, 0, 0, 0)).toArray.size = _
    rw [List.size_toArray, c6P.len]
    omega
  have hgr : ∀ ty, (Builtin.append_ #[23, 3] ty #[.slice (some ⟨g, 0, none⟩) i cap, .int .i64 k]).run Tryz.prog w = .ok (.slice (some ⟨w.heap.size, 0, none⟩) (cap + 1) c2) (w.drew.alloc (.cells (P ++ Z).toArray 93)) := fun ty => by
    rw [hgr ty, hZ]
    congr 3
    simp
  obtain ⟨Y0, hY0⟩ : ∃ Y0, Y0 = P ++ Z := ⟨_, rfl⟩
  rw [← hY0] at hgr
  have hY0l : Y0.length = c2 * 6 := by rw [hY0]; simp [hPl, hZl]; omega
  obtain ⟨Y1, hY1⟩ : ∃ Y1, Y1 = Y0.take (i * 6) ++ cP x ++ Y0.drop (i * 6 + 6) := ⟨_, rfl⟩
  have hY1l : Y1.length = c2 * 6 := by rw [hY1]; simp [hY0l, hXl]; omega
  obtain ⟨Y2, hY2⟩ : ∃ Y2, Y2 = Y1.take (i * 6 + 6) ++ S ++ Y1.drop (i * 6 + 6 + S.length) := ⟨_, rfl⟩
  have HY2 := Lib.hid (show Y2 = flat cP (l.take i ++ x :: l.drop i) ++ Z.drop (6 + S.length) by
    rw [hY2, hY1, hY0, cut2 P Z (cP x) S (i * 6) hPl hXl (by rw [hSl, hZl]; omega), ← HSX.out])
  obtain ⟨g2, hg2⟩ : ∃ g2, w.heap.size = g2 := ⟨_, rfl⟩
  rw [hg2] at hgr
  obtain ⟨W0, hW0⟩ : ∃ W0, w.drew.alloc (.cells Y0.toArray 93) = W0 := ⟨_, rfl⟩
  have BW0 : Bel w W0 := by rw [← hW0]; exact ((Bel.refl w).drew).alloc _
  have hb0 : Blk W0 g2 Y0.toArray 93 := by rw [← hW0, ← hg2]; exact Blk.new w.drew _ _
  rw [hW0] at hgr
  have hgg : g ≠ g2 := by have := hb.lt; omega
  have hcp1 : ∀ ty, (Builtin.copy_ #[23, 23] ty #[.slice (some ⟨g2, i * 6, none⟩) (cap + 1 - i) (c2 - i), .slice (some ⟨xb, 0, none⟩) 1 1]).run Tryz.prog W0 = .ok (goInt (1 : Nat)) (W0.setRow g2 Y1.toArray) := fun ty => by
    have hmin : Nat.min 1 (cap + 1 - i) = 1 := by show min _ _ = _; omega
    have hr := run_copy6 W0 23 23 ty 93 g2 (i * 6) (cap + 1 - i) (c2 - i) ⟨xb, 0, none⟩ 1 1 Y0 _ (cP x) Tryz.underlying23 info_p hb0 (by rw [hmin, hXl]) (fun j u hj => by
      rw [add_at, Nat.zero_add]
      exact (hx.bel BW0).cell _ (by simpa using hj)) (by rw [hY0l, hXl]; omega) (c6P.one x)
    rw [hr, hmin, hY1, hXl]
  have hb1 := blk_setRow hb0 Y1.toArray
  have hbg : Blk (W0.setRow g2 Y1.toArray) g (P ++ S).toArray 93 := (hb.bel BW0).kep (kep_setRow W0 g2 _) hgg
  have HK1 := Lib.hid (kep_setRow W0 g2 Y1.toArray)
  obtain ⟨W1, hW1⟩ : ∃ W1, W0.setRow g2 Y1.toArray = W1 := ⟨_, rfl⟩
  rw [hW1] at hcp1 hb1 hbg HK1
  have hcp2 : ∀ W, Bel W1 W → ∀ ty, (Builtin.copy_ #[23, 23] ty #[.slice (some ⟨g2, (i + 1) * 6, none⟩) (cap + 1 - (i + 1)) (c2 - (i + 1)), .slice (some ⟨g, i * 6, none⟩) (cap - i) (cap - i)]).run Tryz.prog W = .ok (goInt (cap - i : Nat)) (W.setRow g2 Y2.toArray) := fun W hW ty => by
    have hmin : Nat.min (cap - i) (cap + 1 - (i + 1)) = cap - i := by show min _ _ = _; omega
    have hr := run_copy6 W 23 23 ty 93 g2 ((i + 1) * 6) (cap + 1 - (i + 1)) (c2 - (i + 1)) ⟨g, i * 6, none⟩ (cap - i) (cap - i) Y1 _ S Tryz.underlying23 info_p (hb1.bel hW) (by rw [hmin, hSl]) (fun j u hj => by
      rw [add_at]
      refine (hbg.bel hW).cell _ ?_
      rw [List.getElem?_toArray, List.getElem?_append_right (by omega), hPl, Nat.add_sub_cancel_left]
      exact hj) (by rw [hY1l, hSl]; omega) hS1
    rw [hr, hmin, hY2, show (i + 1) * 6 = i * 6 + 6 by omega]
  have hs1 := fun W => slice_hrP g cap cap i W (by omega)
  have hs2 := fun W => slice_ltP g2 (cap + 1) c2 i W (by omega) (by omega)
  have hs3 := fun W => slice_ltP g2 (cap + 1) c2 (i + 1) W (by omega) (by omega)
  have hs4 := fun W => slice_ltP g cap cap i W (by omega) (by omega)
  push_cast at hs3
  have hki : (cap : Int) + 1 - (i : Int) = (k : Int) := by omega
  have HCP1 := Lib.hid hcp1
  have HCP2 := Lib.hid hcp2
  have HGR := Lib.hid hgr
  have HB1 := Lib.hid hb1
  have HYL := Lib.hid hZl
  have HSL := Lib.hid hSl
  have HG2 := Lib.hid hg2
  have HBW := Lib.hid BW0
  have HGE := Lib.hid hge
  have HLE := Lib.hid hle
  have hin : (i : Int) < cap := by omega
  have hie : ((i : Int) == (cap : Int)) = false := by rw [beq_eq_false_iff_ne]; omega
  have hd : decide ((cap : Int) < (cap : Int) + 1) = true := decide_eq_true (by omega)
  clear hcp1 hcp2 hb hx hSl hY0 hY0l hY1 hY1l hY2 hP hS hS1 hPl hPS hXl hsp h hnl hgr hb1 hbg hW1 hW0 hb0 BW0 hZ hZl hc2 hge hle hz0 hz1 hz2 hi0 hg2 hm hkk hk hgg hcp0 hroom
  go_enter Tryz.func237, Tryz.ntmps237
  go_upto_region 11 with (first | (at_builtin; refine Lib.wpList_append_run _ rfl _ _ _ _ rfl _ _ rfl rfl _ _ (HGR.out _) ?_) | ((with_reducible refine wpList_copy_run rfl _ _ 23 23 rfl _ _ rfl rfl (HCP1.out _) ?_)))
  have hwr : IntKind.i64.wrap ((i : Int) + 1) = (i : Int) + 1 := IntWalk.i64_in _ ⟨by omega, by omega⟩
  refine wp_region_held_drew (S := fun Vx => Kep (fun b => b = g2) W1 Vx) (by kernel_rfl) (Kep.drew (Kep.refl _ _)) (fun hS0 => ?_)
  have HW6 := Lib.hid (show Bel W1 W1.drew from (Bel.refl _).drew)
  obtain ⟨w6, hw6⟩ : ∃ w6, World.drew W1 = w6 := ⟨_, rfl⟩
  rw [hw6] at hS0 HW6 ⊢
  clear hw6
  refine ztk 0 { dst := some 46, op := .move (.tmp 9), type := 23, pos := "slices.go:154", after := #[], guard := none } (.slice (some ⟨g2, 0, none⟩) (cap + 1) c2) (Or.inl ⟨by rfl, by intro w hSw; clear hSw; go_simp⟩) hS0 ?_
  try simp only [Act.put, zq1, zq2, zq3]
  refine ztk 1 { dst := some 47, op := .move (.tmp 1), type := 3, pos := "slices.go:154", after := #[], guard := none } (.int .i64 i) (Or.inl ⟨by rfl, by intro w hSw; clear hSw; go_simp⟩) hS0 ?_
  try simp only [Act.put, zq1, zq2, zq3]
  refine ztk 2 { dst := some 48, op := .move (.tmp 7), type := 3, pos := "slices.go:154", after := #[], guard := none } (.int .i64 1) (Or.inl ⟨by rfl, by intro w hSw; clear hSw; go_simp⟩) hS0 ?_
  try simp only [Act.put, zq1, zq2, zq3]
  refine ztk 3 { dst := some 49, op := .binOp .add 3 (.tmp 47) (.tmp 48) 3, type := 3, pos := "slices.go:154", after := #[{ on := 1, ground := .data }, { on := 2, ground := .data }], guard := none } (.int .i64 ((i : Int) + 1)) (Or.inl ⟨by rfl, by intro w hSw; clear hSw; go_simp⟩) hS0 ?_
  try simp only [Act.put, zq1, zq2, zq3]
  refine ztk 4 { dst := some 50, op := .slice 23 (.tmp 46) (some (.tmp 49)) none none, type := 23, pos := "slices.go:154", after := #[{ on := 0, ground := .data }, { on := 3, ground := .data }], guard := none } (.slice (some ⟨g2, (i + 1) * 6, none⟩) (cap + 1 - (i + 1)) (c2 - (i + 1))) (Or.inl ⟨by rfl, by intro w hSw; clear hSw; go_simp⟩) hS0 ?_
  try simp only [Act.put, zq1, zq2, zq3]
  refine ztk 5 { dst := some 51, op := .move (.tmp 0), type := 23, pos := "slices.go:154", after := #[], guard := none } (.slice (some ⟨g, 0, none⟩) cap cap) (Or.inl ⟨by rfl, by intro w hSw; clear hSw; go_simp⟩) hS0 ?_
  try simp only [Act.put, zq1, zq2, zq3]
  refine ztk 6 { dst := some 52, op := .move (.tmp 1), type := 3, pos := "slices.go:154", after := #[], guard := none } (.int .i64 i) (Or.inl ⟨by rfl, by intro w hSw; clear hSw; go_simp⟩) hS0 ?_
  try simp only [Act.put, zq1, zq2, zq3]
  refine ztk 7 { dst := some 53, op := .slice 23 (.tmp 51) (some (.tmp 52)) none none, type := 23, pos := "slices.go:154", after := #[{ on := 5, ground := .data }, { on := 6, ground := .data }], guard := none } (.slice (some ⟨g, i * 6, none⟩) (cap - i) (cap - i)) (Or.inl ⟨by rfl, by intro w hSw; clear hSw; go_simp⟩) hS0 ?_
  try simp only [Act.put, zq1, zq2, zq3]
  refine wpAnyH_ready (rs := [8]) (by kernel_rfl) (by simp) ?_
  refine AllReadyH.cons (o := { dst := some 54, op := .call { callee := .builtin .copy, args := #[.tmp 50, .tmp 53], argTypes := #[23, 23] }, type := 3, pos := "slices.go:154", after := #[{ on := 4, ground := .data }, { on := 7, ground := .data }], guard := none }) rfl (fun K hK => ?_) AllReadyH.nil
  refine step_copy_run rfl (.tmp 50) (.tmp 53) 23 23 rfl _ _ (by simp [Act.eval, Act.put]) (by simp [Act.eval, Act.put]) (HCP2.out w6 HW6.out _) ?_
  refine hK.out _ _ (hS0.trans (kep_setRow _ _ _)) (fun hS1 => ?_)
  clear hK K
  try simp only [Act.put, zq1, zq2, zq3]
  refine wpAnyH_done (by kernel_rfl) ?_ _
  have HE := Lib.hid hS1
  have HB2 := Lib.hid (blk_setRow (HB1.out.bel HW6.out) Y2.toArray)
  obtain ⟨W2, hW2⟩ : ∃ W2, w6.setRow g2 Y2.toArray = W2 := ⟨_, rfl⟩
  rw [hW2] at HE HB2 ⊢
  clear hW2 hS0 hwr
  go_wp2_with fail
  go_ret
  exact ⟨g2, c2, rfl, rb_mk c6P (w := W2) (by rw [← HY2.out]; exact HB2.out) (by rw [HLL.out, List.length_drop, HYL.out, HSL.out]; omega) (by rw [HLL.out]; exact HGE.out), Kep.bel HBW.out (HK1.out.trans HE.out) (fun k e => by rw [e, ← HG2.out]; exact Nat.le_refl _), by rw [HG2.out]; exact Nat.le_refl _, HLE.out⟩
end Ho
end Go.Proofs.YtneajcoiemkfbaaGreat
end
