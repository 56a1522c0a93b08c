/-
  Texts of this claim, put together: RwF, Hp6, Hp7. What each one says, and under which conditions, stands ahead of it.
-/
import Derived.Laws.AppendOwn
import Derived.Deep.AppendLies
import Derived.Test.YtahhnfnonekbmaaGRw
import Derived.Test.YtahhnfnonekbmaaQB

section
/-
  An append to a slice without room behind it (l[:n:n]): new memory, whatever the slice lies in. Conditions: at most two billion rows.
-/
namespace Go.Proofs.Ytahhnfnonekbmaa
open Go.RowKit Go.Shelf
set_option linter.unusedVariables false
namespace Rw
open Kk Pm
variable {α : Type}
theorem run_append_full (K : Row α) {P : Program} {w : World} (t ty e : TypeId) (hu : P.underlying t = some (.slice e)) {zs : Array Value} {bytes : Nat} (hz : (P.info? e).map (fun i => (i.zero, i.size, i.bytes)) = some (some (.agg zs), K.z, bytes)) (hzs : zs.size = K.z) (hby : bytes ≤ 1000)
    {A : Option Addr} {n : Nat} {l : List α} (hs : RS K w A n n l) {B : Addr} {m c : Nat} {l2 : List α} (hx : RS K w (some B) m c l2) (hm0 : 0 < m) (hm : n + m ≤ 2000000000) :
    ∃ cap W, (Builtin.append_ #[t, t] ty #[.slice A n n, .slice (some B) m c]).run P w = .ok (.slice (some ⟨w.heap.size, 0, none⟩) (n + m) cap) W ∧ RB K e W w.heap.size (l ++ l2) cap ∧ OwnR K e W w.heap.size (.slice (some ⟨w.heap.size, 0, none⟩) (n + m) cap) (l ++ l2) ∧ Bel w W := by
  obtain ⟨i0, h1, hz0, hz1, hz2⟩ := info_parts hz
  have hk : (n + m) * bytes ≤ 2000000000 * 1000 := Nat.mul_le_mul hm hby
  have hll : (flat K l).length = n * i0.size := by rw [flat_len K, hs.len, hz1]
  have hl2 : (flat K l2).length = m * i0.size := by rw [flat_len K, hx.len, hz1]
  have new : ∀ old, old < n + m → ∃ cap W, cap = grownCap w (n + m) old e ∧ W = w.drew.alloc (.cells ((flat K l).toArray ++ (flat K l2).toArray ++ Builtin.zeroCells (Value.agg zs).cells (grownCap w (n + m) old e - (n + m))) e) ∧
      RB K e W w.heap.size (l ++ l2) cap ∧ OwnR K e W w.heap.size (.slice (some ⟨w.heap.size, 0, none⟩) (n + m) cap) (l ++ l2) ∧ Bel w W := by
    intro old ho
    have hge := grownCap_ge w (n + m) old e
    have hcm : grownCap w (n + m) old e ≤ maxLen := grownCap_le_maxLen w (n + m) old e (by unfold maxLen; omega)
    have hsz : ((flat K l).toArray ++ (flat K l2).toArray ++ Builtin.zeroCells (Value.agg zs).cells (grownCap w (n + m) old e - (n + m))).size = grownCap w (n + m) old e * K.z := by
      simp only [Array.size_append, List.size_toArray, size_zeroCells, hll, hl2, hz1]
      show n * K.z + m * K.z + _ * zs.size = _
      rw [hzs, ← Nat.add_mul, ← Nat.add_mul]
      congr 1
      omega
    have htk : ((flat K l).toArray ++ (flat K l2).toArray ++ Builtin.zeroCells (Value.agg zs).cells (grownCap w (n + m) old e - (n + m))).toList.take ((n + m) * K.z) = flat K (l ++ l2) := by
      have hlen : (flat K (l ++ l2)).length = (n + m) * K.z := by rw [flat_len K, List.length_append, hs.len, hx.len]
      rw [Array.toList_append, Array.toList_append, ← hlen, flat_app]
      exact List.take_left
    have hlen2 : (l ++ l2).length = n + m := by rw [List.length_append, hs.len, hx.len]
    refine ⟨_, _, rfl, rfl, ⟨⟨_, heap_alloc_new w.drew _, by rw [hlen2]; exact htk, hsz⟩, by rw [hlen2]; exact hge⟩, ?_, ((Bel.refl w).drew).alloc _⟩
    refine ⟨?_, .inr ⟨w.heap.size, _, _, ?_, Nat.le_refl _, heap_alloc_new w.drew _, ?_, hcm, hsz, ?_⟩⟩
    · rw [flat_len K]
    · rw [hlen2]
    · rw [hlen2]; exact hge
    · rw [hlen2]; exact htk
  cases A with
  | none =>
    obtain rfl : n = 0 := by have := hs.nil rfl; omega
    have hl : l = [] := List.length_eq_zero_iff.1 hs.len
    subst hl
    obtain ⟨cap, W, rfl, rfl, h3, h4, h5⟩ := new 0 (by omega)
    have hr := run_append_nil (P := P) w t ty e i0 (.agg zs) hu h1 hz0 B m c (flat K l2) hl2 (rs_news K hx) hm0 (by omega) (by rw [hz2]; have := hk; rw [Nat.zero_add] at this; omega)
    refine ⟨_, _, ?_, h3, h4, h5⟩
    rw [hr]
    simp [flat]
  | some b =>
    obtain ⟨cap, W, rfl, rfl, h3, h4, h5⟩ := new n (by omega)
    exact ⟨_, _, run_append_grow (P := P) w t ty e i0 (.agg zs) hu h1 hz0 b n n (flat K l) hll (rs_news K hs) B m c (flat K l2) hl2 (rs_news K hx) (by omega) (by omega) (growslice_fits (by omega) (by rw [hz2]; omega)), h3, h4, h5⟩
theorem wpList_append_full (K : Row α) {P : Program} {w : World} {ops : Array Oper} {rest : List Oper} {o : Oper} {a : Act} {Q : Exit → Act → World → Prop} (hgd : o.guard = none) (s x : Operand) (t e : TypeId)
    (ho : o.op = .call { callee := .builtin .append, args := #[s, x], argTypes := #[t, t] }) (hu : P.underlying t = some (.slice e)) {zs : Array Value} {bytes : Nat} (hz : (P.info? e).map (fun i => (i.zero, i.size, i.bytes)) = some (some (.agg zs), K.z, bytes)) (hzs : zs.size = K.z) (hby : bytes ≤ 1000)
    {A : Option Addr} {n : Nat} {l : List α} (hs : a.eval s = .slice A n n) (hS : RS K w A n n l) {B : Addr} {m c : Nat} {l2 : List α} (hx : a.eval x = .slice (some B) m c) (hX : RS K w (some B) m c l2) (hm0 : 0 < m) (hm : n + m ≤ 2000000000)
    (h : ∀ cap W, RB K e W w.heap.size (l ++ l2) cap → OwnR K e W w.heap.size (.slice (some ⟨w.heap.size, 0, none⟩) (n + m) cap) (l ++ l2) → Bel w W → wpList P ops Q rest (a.put o.dst (.slice (some ⟨w.heap.size, 0, none⟩) (n + m) cap)) W) : wpList P ops Q (o :: rest) a w :=
  wpList_plain hgd fun K' hK' => by
    obtain ⟨cap, W, hr, h2, h3, h4⟩ := run_append_full K t o.type e hu hz hzs hby hS hX hm0 hm
    unfold Oper.wp execOp
    simp only [ho, resolve, invoke, builtin, Sem.run_bind, Sem.run_pure, Result.andThen_ok, List.map_toArray, List.map_cons, List.map_nil, hs, hx, hr]
    exact hK' _ _ (h cap W h2 h3 h4)
theorem step_append_run {P : Program} {ops : Array Oper} {o : Oper} {a : Act} {w : World} {K : Act → World → Prop} {Q : Exit → Act → World → Prop} {E : Prop}
    (hg : o.guard = none) (d x : Operand) (dT sT : TypeId) (hop : o.op = Op.call { callee := Callee.builtin Builtin.append, args := #[d, x], argTypes := #[dT, sT] })
    (v u : Value) (hd : a.eval d = v) (hx : a.eval x = u) {v' : Value} {w' : World} (hr : (Builtin.append_ #[dT, sT] o.type #[v, u]).run P w = .ok v' w') (hK : K (a.put o.dst v') w') :
    if Region.wanted o (yielded ops a.tmps) = true then Oper.wp P o a w K Q else E := by
  have hw : Region.wanted o (yielded ops a.tmps) = true := by simp [Region.wanted, hg]
  rw [if_pos hw]
  unfold Oper.wp
  simp [execOp, hop, resolve, invoke, builtin, hd, hx, hr, Result.andThen]
  exact hK
/-- An append to a list of one's own: the run. -/
theorem run_append_R (K : Row α) {P : Program} {w : World} (t ty e : TypeId) (hu : P.underlying t = some (.slice e)) {zs : Array Value} {bytes : Nat} (hz : (P.info? e).map (fun i => (i.zero, i.size, i.bytes)) = some (some (.agg zs), K.z, bytes)) (hzs : zs.size = K.z) (hby : bytes ≤ 1000)
    {base : Nat} {v : Value} {l : List α} (hown : OwnR K e w base v l) {B : Addr} {m c : Nat} {l2 : List α} (hx : RS K w (some B) m c l2) (hm0 : 0 < m) (hm : l.length + m ≤ 2000000000) (hb : base ≤ w.heap.size) :
    ∃ v' W, (Builtin.append_ #[t, t] ty #[v, .slice (some B) m c]).run P w = .ok v' W ∧ OwnR K e W base v' (l ++ l2) ∧ w.grownBy W v.ownBlock := by
  obtain ⟨i0, h1, hz0, hz1, hz2⟩ := info_parts hz
  have hk : (l.length + m) * bytes ≤ 2000000000 * 1000 := Nat.mul_le_mul hm hby
  obtain ⟨v', W, hr, h2, h3, _⟩ := run_append_own (P := P) w base t ty e i0 (.agg zs) K.z bytes hu h1 hz0 hz1 hz2 hzs K.pos v l.length (flat K l) hown B m c (flat K l2) (by rw [flat_len K, hx.len]) (rs_news K hx) (flat_one K l2) (by unfold maxLen; omega) (by omega) hb
  refine ⟨v', W, hr, ?_, h3⟩
  unfold OwnR
  rw [flat_app, List.length_append, hx.len]
  exact h2
/-- As append_R, told where the new row lies. -/
theorem wpList_append_lies (K : Row α) {P : Program} {w : World} {ops : Array Oper} {rest : List Oper} {o : Oper} {a : Act} {Q : Exit → Act → World → Prop} (hgd : o.guard = none) (s x : Operand) (ty t : TypeId)
    (ho : o.op = .call { callee := .builtin .append, args := #[s, x], argTypes := #[ty, ty] }) (hu : P.underlying ty = some (.slice t)) {zs : Array Value} {bytes : Nat} (hz : (P.info? t).map (fun i => (i.zero, i.size, i.bytes)) = some (some (.agg zs), K.z, bytes)) (hzs : zs.size = K.z) (hby : bytes ≤ 1000)
    (base : Nat) (v : Value) (l : List α) (hs : a.eval s = v) (hown : OwnR K t w base v l) (A : Option Addr) (m c : Nat) (l2 : List α) (hx : a.eval x = .slice A m c) (hi : RS K w A m c l2)
    (hm0 : 0 < m) (hm : l.length + m ≤ 2000000000) (hb : base ≤ w.heap.size)
    (h : ∀ g cap w', OwnR K t w' base (.slice (some ⟨g, 0, none⟩) (l.length + m) cap) (l ++ l2) → w.grownBy w' v.ownBlock → (v.ownBlock = some g ∨ g = w.heap.size) → g < w'.heap.size → wpList P ops Q rest (a.put o.dst (.slice (some ⟨g, 0, none⟩) (l.length + m) cap)) w') : wpList P ops Q (o :: rest) a w := by
  obtain ⟨i0, h1, hz0, hz1, hz2⟩ := info_parts hz
  obtain ⟨b, off, rfl, _⟩ := hi.row hm0
  have hk : (l.length + m) * bytes ≤ 2000000000 * 1000 := Nat.mul_le_mul hm hby
  refine Go.wpList_append_lies (w := w) hgd s x ty ho base t i0 (.agg zs) K.z bytes hu h1 hz0 hz1 hz2 hzs K.pos v l.length (flat K l) hs hown ⟨b, off, none⟩ m c (flat K l2) hx (by rw [flat_len K, hi.len]) (rs_news K hi) (flat_one K l2) hm0 (by unfold maxLen; omega) (by omega) hb w.heap.size rfl ?_
  intro g cap w' h2 h3 h4 h5
  refine h g cap w' ?_ h3 h4 h5
  unfold OwnR
  rw [flat_app, List.length_append, hi.len]
  exact h2
end Rw
end Go.Proofs.Ytahhnfnonekbmaa
end

section
/-
  What hop.Ripe and hop.Next answer of any list of hops, and what lies behind: sort.Search over a method value. Conditions: at most a million hops; heights are ints.
-/
namespace Go.Proofs.Ytahhnfnonekbmaa
open Go.RowKit Go.Shelf
set_option linter.unusedVariables false
set_option linter.unusedSimpArgs false
namespace Hp
open Kk Pm

theorem underL : Try.prog.underlying 69 = some (.slice 24) := by kernel_rfl
theorem elemH : Try.prog.elem 22 = 24 := by kernel_rfl
theorem elemL : Try.prog.elem 69 = 24 := by kernel_rfl
theorem sizeH : ∀ w, (sizeOf 24).run Try.prog w = .ok 4 w := fun w => by kernel_rfl
set_option maxRecDepth 10000 in
set_option maxHeartbeats 1000000 in
theorem isLeft (A : Option Addr) (n c k : Nat) (L : List R4) (r m : R4) (w : World) (hi : Rw.RS hR w A n c L) (hn : n ≤ 1000000000) (hk : k < n) (hr : L[k]? = some r) (hm : L[n - 1]? = some m) :
    Calls Try.prog 49 #[.slice A n c, .int .i64 k] w fun e w' => e = .returned (.bool (decide (cr m < cr r))) ∧ Bel w w' := by
  obtain ⟨b, o, rfl, hb, hrow⟩ := hi.at hk hr
  obtain ⟨b', o', e', hb', hrow'⟩ := hi.at (show n - 1 < n by omega) hm
  injection e' with e'
  injection e' with e1 e2
  subst e1 e2
  obtain ⟨r1, r2, r3, r4⟩ := r
  obtain ⟨m1, m2, m3, m4⟩ := m
  obtain ⟨c0, c1, c2, c3⟩ := rng4 (show w.rangeAt b (o + k * 4) [.int .i64 r1, .int .i64 r2, .int .i64 r3, .int .i64 r4] from hrow)
  obtain ⟨d0, d1, d2, d3⟩ := rng4 (show w.rangeAt b (o + (n - 1) * 4) [.int .i64 m1, .int .i64 m2, .int .i64 m3, .int .i64 m4] from hrow')
  obtain ⟨j, rfl⟩ : ∃ j, n = j + 1 := ⟨n - 1, by omega⟩
  rw [Nat.add_sub_cancel] at d3
  have hs : IntKind.i64.wrap (((j + 1 : Nat) : Int) - 1) = (j : Int) := by rw [IntWalk.i64_in _ (by omega)]; omega
  have hk3 : (k : Int) < ((j + 1 : Nat) : Int) := by omega
  have hk0 : (0 : Int) ≤ k := by omega
  have hj3 : (j : Int) < ((j + 1 : Nat) : Int) := by omega
  clear hrow hrow' c0 c1 c2 d0 d1 d2 hi hm hr hb hb'
  show Calls Try.prog 49 #[.slice (some ⟨b, o, none⟩) (j + 1) c, .int .i64 k] w fun e w' => e = .returned (.bool (decide (m4 < r4))) ∧ Bel w w'
  go_enter Try.func49, Try.ntmps49
  go_upto_region 1 with fail
  go_quiet (fail)
  go_wp2_with fail
  go_ret
  exact ⟨rfl, by first | exact Bel.refl _ | exact bel_drewN _ _⟩

theorem half (i j : Nat) (h : i + j ≤ 2000000000) : IntKind.i64.wrap ((i : Int) + (j : Int)) = ((i + j : Nat) : Int) := by rw [IntWalk.i64_in _ (by omega)]; omega
set_option maxRecDepth 100000 in
set_option maxHeartbeats 4000000 in
theorem search (A : Option Addr) (n c : Nat) (l : List R4) (m : R4) (w : World) (hi : Rw.RS hR w A (n + 1) c (l ++ [m])) (hn : n ≤ 1000000) (hs : ∀ (i j : Nat) (x y : R4), i ≤ j → l[i]? = some x → l[j]? = some y → cr x ≤ cr y) :
    Calls Try.prog 48 #[.int .i64 n, .func (.func 49) #[.slice A (n + 1) c] #[]] w fun e w' => ∃ k : Nat, e = .returned (.int .i64 k) ∧ k ≤ n ∧ (∀ (i : Nat) (x : R4), i < k → l[i]? = some x → cr x ≤ cr m) ∧ (∀ (i : Nat) (x : R4), k ≤ i → l[i]? = some x → cr m < cr x) ∧ Bel w w' := by
  have hl : l.length = n := by have := hi.len; simp at this; exact this
  have IL := Lib.hid (fun (h : Nat) (r : R4) (hh : h < n) (hr : l[h]? = some r) V (hv : Bel w V) => isLeft A (n + 1) c h (l ++ [m]) r m V (hi.bel hv) (by omega) (by omega) (by rw [List.getElem?_append_left (by omega)]; exact hr) (by rw [Nat.add_sub_cancel, List.getElem?_append_right (by omega), hl, Nat.sub_self]; rfl))
  have HL := Lib.hid hl
  have HS := Lib.hid hs
  clear hi hl hs
  go_enter Try.func48, Try.ntmps48
  go_wp2_with fail
  go_loopw [5, 6] (fun s5 s6 wr => ∃ i j : Nat, s5 = .int .i64 i ∧ s6 = .int .i64 j ∧ i ≤ j ∧ j ≤ n ∧ Hid ((∀ (t : Nat) (x : R4), t < i → l[t]? = some x → cr x ≤ cr m) ∧ (∀ (t : Nat) (x : R4), j ≤ t → l[t]? = some x → cr m < cr x) ∧ Bel w wr)) (fun s5 s6 _ => (intOf s6).toNat - (intOf s5).toNat)
  case atStart => exact ⟨0, n, rfl, rfl, Nat.zero_le _, Nat.le_refl _, Lib.hid ⟨fun t x ht => absurd ht (by omega), fun t x ht hx => by have := (List.getElem?_eq_some_iff.1 hx).1; have := HL.out; omega, Bel.refl _⟩⟩
  case round =>
    obtain ⟨i, j, rfl, rfl, hij, hjn, hh⟩ := hrel
    by_cases hlt : i < j
    · obtain ⟨h, hhd⟩ : ∃ h, (i + j) / 2 = h := ⟨_, rfl⟩
      have hb : i ≤ h ∧ h < j := by omega
      obtain ⟨r, hr⟩ : ∃ r, l[h]? = some r := ⟨_, List.getElem?_eq_getElem (by have := HL.out; omega)⟩
      have CI := Lib.hid (IL.out h r (by omega) hr wr hh.out.2.2)
      obtain ⟨y, hy⟩ : ∃ y, decide (cr m < cr r) = y := ⟨_, rfl⟩
      rw [hy] at CI
      have NX := Lib.hid (show (y = false → ∀ (t : Nat) (x : R4), t < h + 1 → l[t]? = some x → cr x ≤ cr m) ∧ (y = true → ∀ (t : Nat) (x : R4), h ≤ t → l[t]? = some x → cr m < cr x) from ⟨fun e t x ht hx => by
        subst e
        have h1 := of_decide_eq_false hy
        have h2 := HS.out t h x r (by omega) hx hr
        omega, fun e t x ht hx => by
        subst e
        have h1 := of_decide_eq_true hy
        have h2 := HS.out h t r x ht hr hx
        omega⟩)
      have hlt3 : (i : Int) < j := by omega
      have hsum := half i j (by omega)
      have hu : IntKind.u64.wrap ((i + j : Nat) : Int) = ((i + j : Nat) : Int) := IntWalk.u64_in _ (by omega)
      have e2 : ((i : Int) + (j : Int)) / 2 = (h : Int) := by omega
      clear hr hy
      go_upto_region 4 with fail
      try rw [e2]
      clear e2 hsum hu hhd
      go_wp2_with fail
      refine CI.out.mono ?_
      rintro e w1 ⟨rfl, kb⟩
      have K1 := Lib.hid (hh.out.2.2.trans kb)
      clear kb CI
      cases y
      · have N1 := Lib.hid (NX.out.1 rfl)
        clear NX
        go_wp2_with fail
        go_roundw
        case rel => exact ⟨h + 1, j, by go_num, rfl, by omega, hjn, Lib.hid ⟨N1.out, hh.out.2.1, K1.out⟩⟩
        case measure => simp [intOf]; omega
      · have N1 := Lib.hid (NX.out.2 rfl)
        clear NX
        go_wp2_with fail
        go_roundw
        case rel => exact ⟨i, h, rfl, rfl, by omega, by omega, Lib.hid ⟨hh.out.1, N1.out, K1.out⟩⟩
        case measure => simp [intOf]; omega
    · obtain rfl : i = j := by omega
      go_wp2_with fail
      go_ret
      exact ⟨i, rfl, hjn, hh.out.1, fun t x ht hx => hh.out.2.1 t x ht hx, hh.out.2.2⟩
theorem sliced_zero (A : Option Addr) (n s : Nat) : sliced A 0 n n s = .slice A n n := by
  unfold sliced
  by_cases h : n = 0
  · subst h; simp
  · rw [if_neg h]
    cases A with
    | none => simp
    | some a => simp [Addr.add]
theorem slice_full (A : Option Addr) (n c : Nat) (h : n ≤ c) (w : World) : (Instr.slice 22 (.slice A n c) none (some (.int .i64 n)) (some (.int .i64 n))).run Try.prog w = .ok (.slice A n n) w := by
  rw [run_slice_hm (P := Try.prog) (w := w) (t := 22) (a := A) (len := n) (cap := c) (by rw [elemH]; exact underH) .i64 .i64 n n (by omega) (by omega) (by omega), elemH]
  simp [sizeH, Result.andThen, sliced_zero]
theorem slice_fullL (A : Option Addr) (N k c : Nat) (h : k ≤ c) (w : World) : (Instr.slice 69 (.slice A N c) none (some (.int .i64 k)) (some (.int .i64 k))).run Try.prog w = .ok (.slice A k k) w := by
  rw [run_slice_hm (P := Try.prog) (w := w) (t := 69) (a := A) (len := N) (cap := c) (by rw [elemL]; exact underL) .i64 .i64 k k (by omega) (by omega) (by omega), elemL]
  simp [sizeH, Result.andThen, sliced_zero]
theorem slice_low' (g N k n c : Nat) (h : k ≤ n) (h2 : n ≤ c) (w : World) : (Instr.slice 69 (.slice (some ⟨g, 0, none⟩) N c) (some (.int .i64 k)) (some (.int .i64 n)) (some (.int .i64 n))).run Try.prog w = .ok (.slice (if n = k then some ⟨g, 0, none⟩ else some ⟨g, k * 4, none⟩) (n - k) (n - k)) w := by
  rw [run_slice_lhm (P := Try.prog) (w := w) (t := 69) (a := some ⟨g, 0, none⟩) (len := N) (cap := c) (by rw [elemL]; exact underL) .i64 .i64 .i64 k n n (by omega) (by omega) (by omega) (by omega), elemL]
  simp only [sizeH, Result.andThen, sliced, Int.toNat_natCast, Option.map_some, Rw.add_at, Nat.zero_add]
set_option maxRecDepth 10000 in
set_option maxHeartbeats 2000000 in
theorem marked (A : Option Addr) (n c : Nat) (l : List R4) (m : Int) (w : World) (hi : Rw.RS hR w A n c l) (hn : n ≤ 1000000000) :
    Calls Try.prog 47 #[.slice A n c, .int .i64 m] w fun e w' => ∃ g cap, e = .returned (.slice (some ⟨g, 0, none⟩) (n + 1) cap) ∧ w.heap.size ≤ g ∧ Rw.RB hR 24 w' g (l ++ [(0, 0, 0, m)]) cap ∧ Bel w w' := by
  have HS := Lib.hid ((hi.cut (c' := n) (Nat.le_refl _) (fun h => by have := hi.nil h; have := hi.cap; omega)).bel ((Bel.refl w).alloc (.cells #[.int .i64 0, .int .i64 0, .int .i64 0, .int .i64 m] 24)))
  have HX := Lib.hid (Rw.rs_one hR (r := (0, 0, 0, m)) (Blk.new w #[.int .i64 0, .int .i64 0, .int .i64 0, .int .i64 m] 24))
  have hsl := fun V => slice_full A n c hi.cap V
  have BW := Lib.hid ((Bel.refl w).alloc (.cells #[.int .i64 0, .int .i64 0, .int .i64 0, .int .i64 m] 24))
  clear hi
  go_enter Try.func47, Try.ntmps47
  go_wp2_with (at_builtin; refine Rw.wpList_append_full hR rfl _ _ 69 24 rfl underL zero_h rfl (by decide) rfl HS.out rfl HX.out (by omega) (by omega) ?_; intro cap w1 hrb hown hb1)
  have HB := Lib.hid hrb
  have HB1 := Lib.hid (BW.out.trans hb1)
  have HSZ := Lib.hid (Below.size BW.out)
  clear hrb hown hb1
  go_wp2_with fail
  go_ret
  have HB2 := HB.out
  rw [World.size_alloc] at HB2
  exact ⟨_, _, rfl, Nat.le_succ _, HB2, HB1.out⟩

/-- Two halves of one row in new memory. -/
structure Halves (w : World) (base : Nat) (A1 : Option Addr) (n1 c1 : Nat) (A2 : Option Addr) (n2 c2 : Nat) (l1 l2 : List R4) : Prop where
  r1 : Rw.RS hR w A1 n1 c1 l1
  r2 : Rw.RS hR w A2 n2 c2 l2
  g : (n1 = 0 ∧ n2 = 0) ∨ ∃ g cur, base ≤ g ∧ Blk w g cur 24 ∧ (0 < n1 → A1 = some ⟨g, 0, none⟩) ∧ (0 < n2 → A2 = some ⟨g, n1 * 4, none⟩) ∧ (n1 + n2) * 4 ≤ cur.size
section
variable {w w' : World} {base : Nat} {A1 A2 : Option Addr} {n1 c1 n2 c2 : Nat} {l1 l2 : List R4}
theorem Halves.nil_ (w : World) (base : Nat) : Halves w base none 0 0 none 0 0 [] [] := ⟨Rw.RS.nil_, Rw.RS.nil_, .inl ⟨rfl, rfl⟩⟩
theorem Halves.mono (h : Halves w base A1 n1 c1 A2 n2 c2 l1 l2) {b : Nat} (hb : b ≤ base) : Halves w b A1 n1 c1 A2 n2 c2 l1 l2 :=
  ⟨h.r1, h.r2, h.g.imp id fun ⟨g, cur, h1, r⟩ => ⟨g, cur, Nat.le_trans hb h1, r⟩⟩
theorem Halves.kep {S : Nat → Prop} (h : Halves w base A1 n1 c1 A2 n2 c2 l1 l2) (hk : Kep S w w') (hs : ∀ k, base ≤ k → k < w.heap.size → ¬ S k) : Halves w' base A1 n1 c1 A2 n2 c2 l1 l2 := by
  rcases h.g with ⟨h1, h2⟩ | ⟨g, cur, h1, h2, h3, h4, h5⟩
  · exact ⟨h.r1.kep2 hk (fun h0 => absurd h0 (by omega)), h.r2.kep2 hk (fun h0 => absurd h0 (by omega)), .inl ⟨h1, h2⟩⟩
  · have hg := hs g h1 h2.lt
    exact ⟨h.r1.kep2 hk (fun h0 x hx => by rw [h3 h0] at hx; injection hx with hx; rw [← hx]; exact hg), h.r2.kep2 hk (fun h0 x hx => by rw [h4 h0] at hx; injection hx with hx; rw [← hx]; exact hg), .inr ⟨g, cur, h1, h2.kep hk hg, h3, h4, h5⟩⟩
theorem Halves.bel (h : Halves w base A1 n1 c1 A2 n2 c2 l1 l2) (hk : Bel w w') : Halves w' base A1 n1 c1 A2 n2 c2 l1 l2 := h.kep (Kep.of_bel (S := fun _ => False) hk) (fun _ _ _ h => h)
theorem Halves.lay (h : Halves w base A1 n1 c1 A2 n2 c2 l1 l2) : Lay w A1 n1 := fun h0 => by
  rcases h.g with ⟨h1, h2⟩ | ⟨g, cur, h1, h2, h3, h4, h5⟩
  · omega
  · exact ⟨g, 0, cur, h3 h0, h2, by omega⟩
/-- The first half written over leaves the second. -/
theorem Halves.over (h : Halves w base A1 n1 c1 A2 n2 c2 l1 l2) (ho : Ov A1 n1 w w') : Rw.RS hR w' A2 n2 c2 l2 ∧ Lay w' A2 n2 := by
  by_cases h2 : 0 < n2
  · rcases h.g with ⟨_, h3⟩ | ⟨g, cur, h1, hb, h3, h4, h5⟩
    · omega
    · have hA := h4 h2
      have : ∃ cur', Blk w' g cur' 24 ∧ cur'.size = cur.size ∧ ∀ j, n1 * 4 ≤ j → cur'[j]? = cur[j]? := by
        by_cases h0 : 0 < n1
        · obtain ⟨cur', q1, q2, q3⟩ := ho.row g 0 cur h0 (h3 h0) hb
          exact ⟨cur', q1, q2, fun j hj => q3 j (.inr (by omega))⟩
        · exact ⟨cur, hb.kep ho.kep (fun e => h0 e.1), rfl, fun j _ => rfl⟩
      obtain ⟨cur', q1, q2, q3⟩ := this
      refine ⟨⟨h.r2.len, h.r2.cap, h.r2.nil, fun _ => ⟨g, n1 * 4, hA, q1.lt, fun i r hi j v hv => ?_⟩⟩, fun _ => ⟨g, n1 * 4, cur', hA, q1, by omega⟩⟩
      obtain ⟨b, o, e, hlt, hc⟩ := h.r2.row h2
      rw [hA] at e
      injection e with e
      injection e with e1 e2
      subst e1 e2
      have hin : i < n2 := by have := (List.getElem?_eq_some_iff.1 hi).1; have := h.r2.len; omega
      have hj : j < 4 := by have := (List.getElem?_eq_some_iff.1 hv).1; have h4 : (hR.k r).length = 4 := hR.len r; omega
      have h1 := hc i r hi j v hv
      have hidx : n1 * 4 + i * hR.z + j < cur.size := by
        have : hR.z = 4 := rfl
        rw [this]
        omega
      have h2' := hb.cell _ (Array.getElem?_eq_getElem hidx)
      rw [h2'] at h1
      rw [q1.cell _ (by rw [q3 _ (by omega)]; exact Array.getElem?_eq_getElem hidx)]
      exact h1
  · exact ⟨h.r2.kep2 ho.kep (fun h0 => absurd h0 h2), fun h0 => absurd h0 h2⟩
end
theorem rip_ways (l : List R4) (h u : Int) : ((chk l).1 ≠ 0 → ripE l h u = (chk l).1) ∧ ((chk l).1 = 0 → ¬ (1 ≤ h ∧ h ≤ 4294967296 ∧ 1 ≤ u ∧ u ≤ 1048576) → ripE l h u = 3) ∧ ((chk l).1 = 0 → (1 ≤ h ∧ h ≤ 4294967296 ∧ 1 ≤ u ∧ u ≤ 1048576) → ripE l h u = 0) := by
  unfold ripE
  refine ⟨fun h => if_pos h, fun h1 h2 => ?_, fun h1 h2 => ?_⟩
  · rw [if_neg (by rw [h1]; decide), if_pos h2]
  · rw [if_neg (by rw [h1]; decide), if_neg (fun h => h h2)]
theorem rip_nil {l : List R4} {h u : Int} (h0 : ripE l h u ≠ 0) : ripL l h u = [] ∧ lftL l h u = [] := ⟨if_neg h0, if_neg h0⟩
/-- What Ripe tells. -/
def RipeR (w w' : World) (l : List R4) (h u : Int) (e : Ending) : Prop :=
  ∃ A1 n1 c1 A2 n2 c2, e = .returned (.tuple #[.slice A1 n1 c1, .slice A2 n2 c2, .int .i64 (ripE l h u)]) ∧ Halves w' w.heap.size A1 n1 c1 A2 n2 c2 (ripL l h u) (lftL l h u) ∧ Bel w w'
theorem rb_halves {w : World} {g cap n k base : Nat} {l : List R4} {m : R4} (h : Rw.RB hR 24 w g (l ++ [m]) cap) (hn : l.length = n) (hk : k ≤ n) (hb : base ≤ g) {Q : Option Addr} (hQ0 : Q = none → False) (hQ : k < n → Q = some ⟨g, k * 4, none⟩) :
    Halves w base (some ⟨g, 0, none⟩) k k Q (n - k) (n - k) (l.take k) (l.drop k) := by
  have hr := h.rs
  have hl : (l ++ [m]).length = n + 1 := by simp [hn]
  have h1 := (hr.part (m := k) (by rw [hl]; omega)).cut (c' := k) (Nat.le_refl _) (fun h => by cases h)
  have e1 : (l ++ [m]).take k = l.take k := List.take_append_of_le_length (by omega)
  rw [e1] at h1
  obtain ⟨cur, q1, q2, q3⟩ := h.blk
  have hcap := h.cap
  rw [hl] at hcap
  refine ⟨h1, ⟨by rw [List.length_drop, hn], Nat.le_refl _, fun h => (hQ0 h).elim, fun h0 => ?_⟩, .inr ⟨g, cur, hb, q1, fun _ => rfl, fun h0 => hQ (by omega), by rw [q3]; show (k + (n - k)) * 4 ≤ cap * 4; omega⟩⟩
  refine ⟨g, k * 4, hQ (by omega), q1.lt, fun i r hi => ?_⟩
  rw [List.getElem?_drop] at hi
  obtain ⟨b, o, e, _, hc⟩ := hr.row (by rw [hl]; omega)
  injection e with e
  injection e with e1 e2
  subst e1 e2
  have := hc (k + i) r (by rw [List.getElem?_append_left (List.getElem?_eq_some_iff.1 hi).1]; exact hi)
  have hz : hR.z = 4 := rfl
  rw [hz] at this ⊢
  rwa [show k * 4 + i * 4 = 0 + (k + i) * 4 by omega]
set_option maxRecDepth 100000 in
set_option maxHeartbeats 8000000 in
theorem ripe (A : Option Addr) (n c : Nat) (l : List R4) (h u : Int) (w : World) (hi : Rw.RS hR w A n c l) (hn : n ≤ 1000000) :
    Calls Try.prog 19 #[.slice A n c, .int .i64 h, .int .i64 u] w fun e w' => RipeR w w' l h u e := by
  have HI := Lib.hid hi
  have HLN := Lib.hid hi.len
  have CK := Lib.hid (check A n c l w hi (by omega))
  have HH := Lib.hid (fun V => isHeight h V)
  have HP := Lib.hid (fun V => isPeriod u V)
  have RW_ := Lib.hid (rip_ways l h u)
  obtain ⟨e1, he1⟩ : ∃ e, (chk l).1 = e := ⟨_, rfl⟩
  obtain ⟨e2, he2⟩ : ∃ e, (chk l).2 = e := ⟨_, rfl⟩
  have HE1 := Lib.hid he1
  rw [he1, he2] at CK
  rw [he1] at RW_
  clear hi he1 he2
  have FIN : ∀ (W : World) (x : Int), Bel w W → ripE l h u = x → x ≠ 0 → RipeR w W l h u (.returned (.tuple #[.slice none 0 0, .slice none 0 0, .int .i64 x])) := fun W x hb he hx => by
    obtain ⟨q1, q2⟩ := rip_nil (l := l) (h := h) (u := u) (by rw [he]; exact hx)
    exact ⟨none, 0, 0, none, 0, 0, by rw [he], by rw [q1, q2]; exact Halves.nil_ _ _, hb⟩
  have FIN := Lib.hid FIN
  go_enter Try.func19, Try.ntmps19
  go_wp2_with fail
  refine CK.out.mono ?_
  rintro e w1 ⟨rfl, kb⟩
  have K1 := Lib.hid kb
  clear kb CK
  by_cases h0 : e1 = 0
  · subst h0
    have hR2 := RW_.out.2
    by_cases hb : 1 ≤ h ∧ h ≤ 4294967296
    · have ih := HH.out w1
      rw [decide_eq_true hb] at ih
      by_cases hp : 1 ≤ u ∧ u ≤ 1048576
      · have ip := HP.out w1
        rw [decide_eq_true hp] at ip
        have HE := Lib.hid (hR2.2 rfl ⟨hb.1, hb.2, hp.1, hp.2⟩)
        have HOK := Lib.hid (chk_ok.1 HE1.out)
        have hwr : IntKind.i64.wrap (h - u) = h - u := IntWalk.i64_in _ (by omega)
        clear hR2 RW_ hb hp FIN
        go_wp2_with fail
        refine ih.mono ?_
        rintro e w2 ⟨rfl, rfl⟩
        clear ih
        go_wp2_with fail
        refine ip.mono ?_
        rintro e w2 ⟨rfl, rfl⟩
        clear ip
        have MK := Lib.hid (marked A n c l (h - u) w1 (HI.out.bel K1.out) (by omega))
        go_wp2_with fail
        refine MK.out.mono ?_
        rintro e w2 ⟨g, cap, rfl, hg, hrb, kb⟩
        have HG := Lib.hid (Nat.le_trans (Below.size K1.out) hg)
        have HRB := Lib.hid hrb
        have K2 := Lib.hid (K1.out.trans kb)
        have hcap : n + 1 ≤ cap := by have := hrb.cap; rw [List.length_append, HLN.out] at this; exact this
        have hrs := hrb.rs
        rw [List.length_append, HLN.out] at hrs
        have SR := Lib.hid (search (some ⟨g, 0, none⟩) n cap l (0, 0, 0, h - u) w2 hrs hn (fun i j x y hij hx hy => srt_get l 0 HOK.out.2 i j x y hij hx hy))
        clear hg hrb kb MK hrs
        go_wp2_with fail
        refine SR.out.mono ?_
        rintro e w3 ⟨k, rfl, hk, h1, h2, kb⟩
        have K3 := Lib.hid (K2.out.trans kb)
        have HRB3 := Lib.hid (HRB.out.bel kb)
        have HPT := Lib.hid (rip_at l 0 HOK.out.2 (h - u) k (by rw [HLN.out]; exact hk) h1 h2)
        clear h1 h2 kb SR HRB
        have s1 := fun V => slice_fullL (some ⟨g, 0, none⟩) (n + 1) k cap (by omega) V
        have hq1 := fun V => slice_low' g (n + 1) k n cap hk (by omega) V
        obtain ⟨Q, hQ⟩ : ∃ Q, (if n = k then some (⟨g, 0, none⟩ : Addr) else some ⟨g, k * 4, none⟩) = Q := ⟨_, rfl⟩
        rw [hQ] at hq1
        have hq2 : Q = none → False := fun e => by rw [e] at hQ; split at hQ <;> cases hQ
        have hq3 : k < n → Q = some ⟨g, k * 4, none⟩ := fun h => by rw [← hQ, if_neg (by omega)]
        clear hQ
        have HHV := Lib.hid (rb_halves HRB3.out HLN.out hk HG.out hq2 hq3)
        clear hq2 hq3
        go_upto_region 8 with fail
        go_quiet (fail)
        go_wp2_with fail
        go_ret3
        refine ⟨some ⟨g, 0, none⟩, k, k, Q, n - k, n - k, by rw [HE.out]; rfl, ?_, K3.out.trans (by first | exact Bel.refl _ | exact bel_drewN _ _)⟩
        have hrl : ripL l h u = l.take k := (if_pos HE.out).trans HPT.out.1
        have hll : lftL l h u = l.drop k := (if_pos HE.out).trans HPT.out.2
        rw [hrl, hll]
        exact HHV.out.bel (by first | exact Bel.refl _ | exact bel_drewN _ _)
      · have ip := HP.out w1
        rw [decide_eq_false hp] at ip
        have HE := Lib.hid (hR2.1 rfl (fun h => hp h.2.2))
        clear hR2 RW_ hb hp
        go_wp2_with fail
        refine ih.mono ?_
        rintro e w2 ⟨rfl, rfl⟩
        clear ih
        go_wp2_with fail
        refine ip.mono ?_
        rintro e w2 ⟨rfl, rfl⟩
        clear ip
        go_wp2_with fail
        go_ret3
        exact FIN.out _ 3 K1.out HE.out (by decide)
    · have ih := HH.out w1
      rw [decide_eq_false hb] at ih
      have HE := Lib.hid (hR2.1 rfl (fun h => hb ⟨h.1, h.2.1⟩))
      clear hR2 RW_ hb
      go_wp2_with fail
      refine ih.mono ?_
      rintro e w2 ⟨rfl, rfl⟩
      clear ih
      go_wp2_with fail
      go_ret3
      exact FIN.out _ 3 K1.out HE.out (by decide)
  · have HE := Lib.hid (RW_.out.1 h0)
    have hne : (e1 != 0) = true := by rw [bne_iff_ne]; exact h0
    have H0 := Lib.hid h0
    clear h0
    go_wp2_with fail
    go_ret3
    exact FIN.out _ e1 K1.out HE.out H0.out
end Hp
end Go.Proofs.Ytahhnfnonekbmaa
end

section
/-
  What hop.Next and hop.Add answer of any list of hops. Conditions: at most a million hops; the numbers are ints.
-/
namespace Go.Proofs.Ytahhnfnonekbmaa
open Go.RowKit Go.Shelf
set_option linter.unusedVariables false
set_option linter.unusedSimpArgs false
namespace Hp
open Kk Pm

theorem nxt_ways (l : List R4) (u : Int) : (¬ ((chk l).1 = 0 ∧ 0 < l.length ∧ 1 ≤ u ∧ u ≤ 1048576) → nxt l u = (0, false)) ∧ (∀ r, (chk l).1 = 0 → l[0]? = some r → 1 ≤ u → u ≤ 1048576 → nxt l u = (cr r + u, true)) := by
  unfold nxt
  refine ⟨fun h => if_neg h, fun r h1 h2 h3 h4 => ?_⟩
  rw [if_pos ⟨h1, (List.getElem?_eq_some_iff.1 h2).1, h3, h4⟩, h2]
  rfl
set_option maxRecDepth 100000 in
set_option maxHeartbeats 4000000 in
theorem next (A : Option Addr) (n c : Nat) (l : List R4) (u : Int) (w : World) (hi : Rw.RS hR w A n c l) (hn : n ≤ 1000000) :
    Calls Try.prog 13 #[.slice A n c, .int .i64 u] w fun e w' => e = .returned (.tuple #[.int .i64 (nxt l u).1, .bool (nxt l u).2]) ∧ Bel w w' := by
  have HI := Lib.hid hi
  have HLN := Lib.hid hi.len
  have CK := Lib.hid (check A n c l w hi (by omega))
  have HP := Lib.hid (fun V => isPeriod u V)
  have NW := Lib.hid (nxt_ways l u)
  obtain ⟨e1, he1⟩ : ∃ e, (chk l).1 = e := ⟨_, rfl⟩
  obtain ⟨e2, he2⟩ : ∃ e, (chk l).2 = e := ⟨_, rfl⟩
  have HE1 := Lib.hid he1
  obtain ⟨R, hR⟩ : ∃ R, nxt l u = R := ⟨_, rfl⟩
  rw [he1, he2] at CK
  rw [hR]
  rw [he1, hR] at NW
  clear hi he1 he2 hR
  go_enter Try.func13, Try.ntmps13
  go_wp2_with fail
  refine CK.out.mono ?_
  rintro e w1 ⟨rfl, kb⟩
  have K1 := Lib.hid kb
  clear kb CK
  by_cases h0 : e1 = 0
  · subst h0
    by_cases hn0 : n = 0
    · obtain rfl : R = (0, false) := NW.out.1 (fun h => by have := h.2.1; have := HLN.out; omega)
      subst hn0
      clear NW
      go_wp2_with fail
      go_ret2
      exact ⟨rfl, K1.out⟩
    · obtain ⟨⟨r1, r2, r3, r4⟩, hr⟩ := HI.out.get (show 0 < n by omega)
      have hn1 : ((n : Int) == 0) = false := by simp; exact hn0
      by_cases hp : 1 ≤ u ∧ u ≤ 1048576
      · have ip := HP.out w1
        rw [decide_eq_true hp] at ip
        obtain rfl : R = (r4 + u, true) := NW.out.2 _ rfl hr hp.1 hp.2
        have HB := Lib.hid (show 1 ≤ r4 ∧ r4 ≤ 4294967296 from may_cr (srt_le l 0 (chk_ok.1 HE1.out).2 _ (List.mem_of_getElem? hr)).1)
        have hwr : IntKind.i64.wrap (r4 + u) = r4 + u := IntWalk.i64_in _ (by have := HB.out; omega)
        obtain ⟨b, o, rfl, hb, hrow⟩ := (HI.out.bel K1.out).at (show 0 < n by omega) hr
        rw [Nat.zero_mul, Nat.add_zero] at hrow
        obtain ⟨c0, c1, c2, c3⟩ := rng4 (show w1.rangeAt b o [.int .i64 r1, .int .i64 r2, .int .i64 r3, .int .i64 r4] from hrow)
        have hn2 : (0 : Int) < n := by omega
        clear hrow hr NW hp c0 c1 c2 hn0
        go_wp2_with fail
        refine ip.mono ?_
        rintro e w2 ⟨rfl, rfl⟩
        clear ip
        go_wp2_with fail
        go_ret2
        exact ⟨rfl, K1.out⟩
      · have ip := HP.out w1
        rw [decide_eq_false hp] at ip
        obtain rfl : R = (0, false) := NW.out.1 (fun h => hp h.2.2)
        clear hr NW hp hn0
        go_wp2_with fail
        refine ip.mono ?_
        rintro e w2 ⟨rfl, rfl⟩
        clear ip
        go_wp2_with fail
        go_ret2
        exact ⟨rfl, K1.out⟩
  · obtain rfl : R = (0, false) := NW.out.1 (fun h => h0 h.1)
    have hne : (e1 != 0) = true := by rw [bne_iff_ne]; exact h0
    clear h0 NW
    go_wp2_with fail
    go_ret2
    exact ⟨rfl, K1.out⟩
theorem bef_last {l : List R4} {n : Nat} {r : R4} (hl : l.length = n + 1) (hr : l[n]? = some r) : bef 0 l l.length = cr r := by rw [hl]; exact bef_succ hr
/-- What Add tells. -/
def AddR (w w' : World) (l : List R4) (x : R4) (m : Int) (e : Ending) : Prop :=
  ∃ v, e = .returned (.tuple #[v, .int .i64 (addE l x m)]) ∧ OwnH w' w.heap.size v (addL l x m) ∧ Bel w w'
set_option maxRecDepth 100000 in
set_option maxHeartbeats 8000000 in
theorem add (A : Option Addr) (n c : Nat) (l : List R4) (x1 x2 x3 x4 m : Int) (w : World) (hi : Rw.RS hR w A n c l) (hn : n ≤ 1000000) (h3 : ∀ r ∈ l, W3 r) :
    Calls Try.prog 17 #[.slice A n c, .agg #[.int .i64 x1, .int .i64 x2, .int .i64 x3, .int .i64 x4], .int .i64 m] w fun e w' => AddR w w' l (x1, x2, x3, x4) m e := by
  have HI := Lib.hid hi
  have HLN := Lib.hid hi.len
  have P0 := Lib.hid (Blk.new w #[.int .i64 x1, .int .i64 x2, .int .i64 x3, .int .i64 x4] 24)
  obtain ⟨W, hW⟩ : ∃ W, w.alloc (.cells #[.int .i64 x1, .int .i64 x2, .int .i64 x3, .int .i64 x4] 24) = W := ⟨_, rfl⟩
  have BW := Lib.hid (show Bel w W by rw [← hW]; exact (Bel.refl w).alloc _)
  rw [hW] at P0
  have CK := Lib.hid (check A n c l W (hi.bel BW.out) (by omega))
  have IH := Lib.hid (fun V => isHop x1 x2 x3 x4 V)
  have CN := Lib.hid (fun V (hv : Bel w V) (h1 : I64 x1) (h2 : I64 x2) (h4 : I64 x3) => count A n c l x1 x2 x3 V (hi.bel hv) (by omega) h3 h1 h2 h4)
  have AW := Lib.hid (add_ways l (x1, x2, x3, x4) m)
  obtain ⟨e1, he1⟩ : ∃ e, (chk l).1 = e := ⟨_, rfl⟩
  obtain ⟨e2, he2⟩ : ∃ e, (chk l).2 = e := ⟨_, rfl⟩
  have HE1 := Lib.hid he1
  rw [he1, he2] at CK
  rw [he1] at AW
  clear hi he1 he2 h3
  have FIN : ∀ (V : World) (x : Int), Bel w V → addE l (x1, x2, x3, x4) m = x → x ≠ 0 → AddR w V l (x1, x2, x3, x4) m (.returned (.tuple #[.slice none 0 0, .int .i64 x])) := fun V x hb he hx =>
    ⟨_, by rw [he], by rw [addL_ne (by rw [he]; exact hx)]; exact Rw.OwnR.nil_ _ _ _ _, hb⟩
  have FIN := Lib.hid FIN
  go_enter Try.func17, Try.ntmps17
  go_upto_region 1 with fail
  try rw [hW]
  have HG := Lib.hid (show w.heap.size ≤ w.heap.size from Nat.le_refl _)
  obtain ⟨g, hg⟩ : ∃ g, w.heap.size = g := ⟨_, rfl⟩
  rw [hg] at P0 ⊢
  have HGG := Lib.hid hg
  clear hW hg
  go_wp2_with fail
  refine CK.out.mono ?_
  rintro e w1 ⟨rfl, kb⟩
  have K1 := Lib.hid (BW.out.trans kb)
  have P1 := Lib.hid (P0.out.bel kb)
  clear kb CK P0
  have g0 := P1.out.cell 0 rfl
  have g1 := P1.out.cell 1 rfl
  have g2 := P1.out.cell 2 rfl
  have g3 := P1.out.cell 3 rfl
  by_cases h0 : e1 = 0
  · subst h0
    have AW2 := Lib.hid (show _ from AW.out.2)
    obtain ⟨y, hy⟩ : ∃ y, may (x1, x2, x3, x4) = y := ⟨_, rfl⟩
    have ih := IH.out w1
    rw [hy] at ih AW2
    have HY := Lib.hid hy
    clear hy AW
    cases y
    · have HE := Lib.hid (AW2.out.1 (by simp) (.inl rfl))
      clear AW2
      go_wp2_with fail
      refine ih.mono ?_
      rintro e w2 ⟨rfl, kb⟩
      have K2 := Lib.hid (K1.out.trans kb)
      clear kb ih g0 g1 g2 g3
      go_wp2_with fail
      go_ret2
      exact FIN.out _ 3 K2.out HE.out (by decide)
    · have HX := Lib.hid ((may_iff _ _ _ _).1 HY.out)
      go_wp2_with fail
      refine ih.mono ?_
      rintro e w2 ⟨rfl, kb⟩
      have K2 := Lib.hid (K1.out.trans kb)
      have P2 := Lib.hid (P1.out.bel kb)
      clear kb ih g0 g1 g2 g3 P1
      by_cases hm1 : m < 1
      · have HE := Lib.hid (AW2.out.1 (by simp) (.inr (.inl hm1)))
        clear AW2
        go_wp2_with fail
        go_ret2
        exact FIN.out _ 3 K2.out HE.out (by decide)
      · by_cases hm2 : 16 < m
        · have HE := Lib.hid (AW2.out.1 (by simp) (.inr (.inr hm2)))
          clear AW2
          go_wp2_with fail
          go_ret2
          exact FIN.out _ 3 K2.out HE.out (by decide)
        · have hno : ¬ (true = false ∨ m < 1 ∨ 16 < m) := by simp; omega
          have AW3 := Lib.hid (⟨AW2.out.2.1 (by simp) hno, AW2.out.2.2.1 (by simp) hno, AW2.out.2.2.2.1 (by simp) hno, AW2.out.2.2.2.2 (by simp) hno⟩ : _ ∧ _ ∧ _ ∧ _)
          clear AW2 hno
          have g3 := P2.out.cell 3 rfl
          have CNT := Lib.hid (fun V (hv : Bel w V) => CN.out V hv ⟨by have := HX.out; omega, by have := HX.out; omega⟩ ⟨by have := HX.out; omega, by have := HX.out; omega⟩ ⟨by have := HX.out; omega, by have := HX.out; omega⟩)
          by_cases hn0 : n = 0
          · have HB := Lib.hid (show ¬ cr (x1, x2, x3, x4) < bef 0 l l.length from by
              rw [HLN.out, hn0]
              have := (may_cr HY.out).1
              show ¬ _ < (0 : Int)
              omega)
            have hnn : decide ((0 : Int) < (n : Int)) = false := decide_eq_false (by omega)
            subst hn0
            go_upto_region 8 with fail
            go_quiet (fail)
            have K3 := Lib.hid (K2.out.trans (bel_drewN w2 nq))
            have P3 := Lib.hid (P2.out.bel (bel_drewN w2 nq))
            generalize hV : World.drewN w2 nq = V at K3 P3 ⊢
            clear hV
            have g0 := P3.out.cell 0 rfl
            have g1 := P3.out.cell 1 rfl
            have g2 := P3.out.cell 2 rfl
            have CT := Lib.hid (CNT.out V K3.out)
            obtain ⟨C, hC⟩ : ∃ C, cnt l x1 x2 x3 = C := ⟨_, rfl⟩
            rw [hC] at CT
            have HC := Lib.hid hC
            clear hC CNT
            go_wp2_with fail
            refine CT.out.mono ?_
            rintro e w4 ⟨rfl, kb⟩
            have K4 := Lib.hid (K3.out.trans kb)
            have P4 := Lib.hid (P3.out.bel kb)
            clear kb CT g0 g1 g2 P3
            by_cases hc : m ≤ (C : Int)
            · have HE := Lib.hid (AW3.out.2.1 HB.out (by show m ≤ (cnt l x1 x2 x3 : Int); rw [HC.out]; exact hc))
              clear AW3
              go_wp2_with fail
              go_ret2
              exact FIN.out _ 22 K4.out HE.out (by decide)
            · have hcn : ¬ m ≤ ((cnt l (x1, x2, x3, x4).1 (x1, x2, x3, x4).2.1 (x1, x2, x3, x4).2.2.1 : Nat) : Int) := by show ¬ m ≤ (cnt l x1 x2 x3 : Int); rw [HC.out]; exact hc
              · have HE := Lib.hid (AW3.out.2.2.2 HB.out (by first | exact hcn | exact Int.not_le.1 hcn) (by rw [HLN.out]; decide))
                have hsl := fun V => show (Instr.slice 22 (.slice A 0 c) none (some (.int .i64 0)) (some (.int .i64 0))).run Try.prog V = .ok (.slice A 0 0) V from slice_full A 0 c HI.out.cap V
                clear AW3 hcn
                go_upto_region 14 with fail
                refine wp_region_held_drew (S := fun Vx => Bel w4 Vx) (by kernel_rfl) (Bel.refl _).drew (fun hS0 => ?_)
                have HS6 := Lib.hid hS0
                obtain ⟨w6, hw6⟩ : ∃ w6, World.drew w4 = w6 := ⟨_, rfl⟩
                rw [hw6] at hS0 HS6 ⊢
                clear hw6
                have HX := Lib.hid (Rw.rs_one hR (r := (x1, x2, x3, x4)) (Blk.new w6 #[.int .i64 x1, .int .i64 x2, .int .i64 x3, .int .i64 x4] 24))
                have HS7 := Lib.hid ((HI.out.cut (c' := 0) (Nat.le_refl _) (fun h => by have := HI.out.nil h; have := HI.out.cap; omega)).bel ((K4.out.trans HS6.out).alloc (.cells #[.int .i64 x1, .int .i64 x2, .int .i64 x3, .int .i64 x4] 24)))
                obtain ⟨cap, W9, hAP, hRB, hOW, hB9⟩ := Rw.run_append_full hR 22 22 24 underH zero_h rfl (by decide) HS7.out HX.out (by omega) (by omega)
                obtain ⟨W7, hW7⟩ : ∃ W7, w6.alloc (.cells #[.int .i64 x1, .int .i64 x2, .int .i64 x3, .int .i64 x4] 24) = W7 := ⟨_, rfl⟩
                have H7 := Lib.hid (show Bel w4 W7 by rw [← hW7]; exact HS6.out.alloc _)
                have H67 := Lib.hid hW7
                rw [hW7] at hAP hOW hB9
                have HAP := Lib.hid hAP
                have HOW := Lib.hid hOW
                have HB9 := Lib.hid hB9
                clear hAP hRB hOW hB9 hW7 HX HS7
                refine wpAnyH_take (i := 0) (oi := { dst := some 57, op := .move (.tmp 0), type := 22, pos := "hop.go:51", after := #[], guard := none }) (v := .slice A 0 c) rfl (by kernel_rfl) (by kernel_rfl) (by kernel_rfl) (fun _ _ _ h => h) (Or.inl ⟨by rfl, by intro w hSw; clear hSw; go_simp⟩) hS0 ?_
                try simp only [Act.put, List.setIfInBounds_toArray, List.set_cons_zero, List.set_cons_succ]
                refine wpAnyH_take (i := 1) (oi := { dst := some 58, op := .move (.tmp 0), type := 22, pos := "hop.go:51", after := #[], guard := none }) (v := .slice A 0 c) rfl (by kernel_rfl) (by kernel_rfl) (by kernel_rfl) (fun _ _ _ h => h) (Or.inl ⟨by rfl, by intro w hSw; clear hSw; go_simp⟩) hS0 ?_
                try simp only [Act.put, List.setIfInBounds_toArray, List.set_cons_zero, List.set_cons_succ]
                refine wpAnyH_take (i := 2) (oi := { dst := some 59, op := .call { callee := .builtin .len, args := #[.tmp 58], argTypes := #[22] }, type := 3, pos := "hop.go:51", after := #[{ on := 1, ground := .data }], guard := none }) (v := .int .i64 0) rfl (by kernel_rfl) (by kernel_rfl) (by kernel_rfl) (fun _ _ _ h => h) (Or.inl ⟨by rfl, by intro w hSw; clear hSw; go_simp⟩) hS0 ?_
                try simp only [Act.put, List.setIfInBounds_toArray, List.set_cons_zero, List.set_cons_succ]
                refine wpAnyH_take (i := 3) (oi := { dst := some 60, op := .move (.tmp 0), type := 22, pos := "hop.go:51", after := #[], guard := none }) (v := .slice A 0 c) rfl (by kernel_rfl) (by kernel_rfl) (by kernel_rfl) (fun _ _ _ h => h) (Or.inl ⟨by rfl, by intro w hSw; clear hSw; go_simp⟩) hS0 ?_
                try simp only [Act.put, List.setIfInBounds_toArray, List.set_cons_zero, List.set_cons_succ]
                refine wpAnyH_take (i := 4) (oi := { dst := some 61, op := .call { callee := .builtin .len, args := #[.tmp 60], argTypes := #[22] }, type := 3, pos := "hop.go:51", after := #[{ on := 3, ground := .data }], guard := none }) (v := .int .i64 0) rfl (by kernel_rfl) (by kernel_rfl) (by kernel_rfl) (fun _ _ _ h => h) (Or.inl ⟨by rfl, by intro w hSw; clear hSw; go_simp⟩) hS0 ?_
                try simp only [Act.put, List.setIfInBounds_toArray, List.set_cons_zero, List.set_cons_succ]
                refine wpAnyH_take (i := 5) (oi := { dst := some 62, op := .slice 22 (.tmp 57) none (some (.tmp 59)) (some (.tmp 61)), type := 22, pos := "hop.go:51", after := #[{ on := 0, ground := .data }, { on := 2, ground := .data }, { on := 4, ground := .data }], guard := none }) (v := .slice A 0 0) rfl (by kernel_rfl) (by kernel_rfl) (by kernel_rfl) (fun _ _ _ h => h) (Or.inl ⟨by rfl, by intro w hSw; clear hSw; go_simp⟩) hS0 ?_
                try simp only [Act.put, List.setIfInBounds_toArray, List.set_cons_zero, List.set_cons_succ]
                refine wpAnyH_take (i := 6) (oi := { dst := some 63, op := .load 24 (.tmp 4), type := 24, pos := "hop.go:51", after := #[], guard := none }) (v := .agg #[.int .i64 x1, .int .i64 x2, .int .i64 x3, .int .i64 x4]) rfl (by kernel_rfl) (by kernel_rfl) (by kernel_rfl) (fun _ _ _ h => h) (yieldsIf_load_mid (by rfl) _ _ rfl _ _ rfl _ _ (fun w h => rng_bel (rngB (C := [.int .i64 x1, .int .i64 x2, .int .i64 x3, .int .i64 x4]) P4.out) h) Try.underlying24 rfl info_h) hS0 ?_
                try simp only [Act.put, List.setIfInBounds_toArray, List.set_cons_zero, List.set_cons_succ]
                refine wpAnyH_ready (rs := [7]) (by kernel_rfl) (by simp) ?_
                refine AllReadyH.cons (o := { dst := some 64, op := .buildSlice 22 1 #[(0, .tmp 63)], type := 22, pos := "hop.go:51", after := #[{ on := 6, ground := .data }], guard := none }) rfl (fun K hK => ?_) AllReadyH.nil
                go_simp
                refine hK.out _ _ (HS6.out.alloc _) (fun hS1 => ?_)
                clear hK K
                try simp only [Act.put, List.setIfInBounds_toArray, List.set_cons_zero, List.set_cons_succ]
                refine wpAnyH_ready (rs := [8]) (by kernel_rfl) (by simp) ?_
                refine AllReadyH.cons (o := { dst := some 65, op := .call { callee := .builtin .append, args := #[.tmp 62, .tmp 64], argTypes := #[22, 22] }, type := 22, pos := "hop.go:51", after := #[{ on := 5, ground := .data }, { on := 7, ground := .data }], guard := none }) rfl (fun K hK => ?_) AllReadyH.nil
                rw [H67.out]
                refine Rw.step_append_run rfl (.tmp 62) (.tmp 64) 22 22 rfl _ _ (by simp [Act.eval, Act.put]) (by simp [Act.eval, Act.put]) HAP.out ?_
                refine hK.out _ _ (H7.out.trans HB9.out) (fun hS2 => ?_)
                clear hK K
                try simp only [Act.put, List.setIfInBounds_toArray, List.set_cons_zero, List.set_cons_succ]
                refine wpAnyH_take (i := 9) (oi := { dst := some 6, op := .assign (.tmp 65), type := 22, pos := "hop.go:51", after := #[{ on := 8, ground := .data }, { on := 8, ground := .chain }, { on := 0, ground := .phase }, { on := 1, ground := .phase }, { on := 2, ground := .phase }, { on := 3, ground := .phase }, { on := 4, ground := .phase }, { on := 5, ground := .phase }, { on := 6, ground := .phase }, { on := 7, ground := .phase }, { on := 8, ground := .phase }], guard := none }) (v := .slice (some ⟨(World.heap W7).size, 0, none⟩) (0 + 1) cap) rfl (by kernel_rfl) (by kernel_rfl) (by kernel_rfl) (fun _ _ _ h => h) (Or.inl ⟨by rfl, by intro w hSw; clear hSw; go_simp⟩) hS2 ?_
                try simp only [Act.put, List.setIfInBounds_toArray, List.set_cons_zero, List.set_cons_succ]
                refine wpAnyH_take (i := 10) (oi := { dst := some 7, op := .assign (.const (Value.int IntKind.i64 0)), type := 27, pos := "hop.go:51", after := #[{ on := 9, ground := .chain }, { on := 0, ground := .phase }, { on := 1, ground := .phase }, { on := 2, ground := .phase }, { on := 3, ground := .phase }, { on := 4, ground := .phase }, { on := 5, ground := .phase }, { on := 6, ground := .phase }, { on := 7, ground := .phase }, { on := 8, ground := .phase }, { on := 9, ground := .phase }], guard := none }) (v := .int .i64 0) rfl (by kernel_rfl) (by kernel_rfl) (by kernel_rfl) (fun _ _ _ h => h) (Or.inl ⟨by rfl, by intro w hSw; clear hSw; go_simp⟩) hS2 ?_
                try simp only [Act.put, List.setIfInBounds_toArray, List.set_cons_zero, List.set_cons_succ]
                refine wpAnyH_done (by kernel_rfl) ?_ _
                go_wp2_with fail
                go_ret2
                refine ⟨_, by rw [HE.out]; rfl, ?_, (K4.out.trans H7.out).trans HB9.out⟩
                rw [addL_eq HE.out]
                exact HOW.out.mono (Nat.le_trans (Below.size K4.out) (Below.size H7.out))
          · obtain ⟨⟨p1, p2, p3, p4⟩, hp⟩ := HI.out.get (show n - 1 < n by omega)
            obtain ⟨b, o, rfl, hb, hrow⟩ := (HI.out.bel K2.out).at (show n - 1 < n by omega) hp
            obtain ⟨d0, d1, d2, d3⟩ := rng4 (show w2.rangeAt b (o + (n - 1) * 4) [.int .i64 p1, .int .i64 p2, .int .i64 p3, .int .i64 p4] from hrow)
            obtain ⟨j, hj⟩ : ∃ j, n = j + 1 := ⟨n - 1, by omega⟩
            rw [show n - 1 = j by omega] at d3 hp
            have HBF := Lib.hid (show bef 0 l l.length = p4 from bef_last (HLN.out.trans hj) hp)
            have hs : IntKind.i64.wrap ((n : Int) - 1) = (j : Int) := by rw [IntWalk.i64_in _ (by omega)]; omega
            have hj3 : (j : Int) < (n : Int) := by omega
            have hj0 : (0 : Int) < (n : Int) := by omega
            have hjn : 0 < n := by omega
            clear hrow hp hn0 d0 d1 d2 hj
            by_cases h6 : x4 < p4
            · have HE := Lib.hid (AW3.out.1 (by rw [HBF.out]; exact h6))
              clear AW3
              go_upto_region 8 with fail
              go_quiet (fail)
              go_wp2_with fail
              go_ret2
              exact FIN.out _ 9 (K2.out.trans (by first | exact Bel.refl _ | exact bel_drewN _ _)) HE.out (by decide)
            · have HB := Lib.hid (show ¬ cr (x1, x2, x3, x4) < bef 0 l l.length by rw [HBF.out]; exact h6)
              go_upto_region 8 with fail
              go_quiet (fail)
              have K3 := Lib.hid (K2.out.trans (bel_drewN w2 nq))
              have P3 := Lib.hid (P2.out.bel (bel_drewN w2 nq))
              generalize hV : World.drewN w2 nq = V at K3 P3 ⊢
              clear hV
              have g0 := P3.out.cell 0 rfl
              have g1 := P3.out.cell 1 rfl
              have g2 := P3.out.cell 2 rfl
              have CT := Lib.hid (CNT.out V K3.out)
              obtain ⟨C, hC⟩ : ∃ C, cnt l x1 x2 x3 = C := ⟨_, rfl⟩
              rw [hC] at CT
              have HC := Lib.hid hC
              clear hC CNT
              go_wp2_with fail
              refine CT.out.mono ?_
              rintro e w4 ⟨rfl, kb⟩
              have K4 := Lib.hid (K3.out.trans kb)
              have P4 := Lib.hid (P3.out.bel kb)
              clear kb CT g0 g1 g2 P3
              by_cases hc : m ≤ (C : Int)
              · have HE := Lib.hid (AW3.out.2.1 HB.out (by show m ≤ (cnt l x1 x2 x3 : Int); rw [HC.out]; exact hc))
                clear AW3
                go_wp2_with fail
                go_ret2
                exact FIN.out _ 22 K4.out HE.out (by decide)
              · have hcn : ¬ m ≤ ((cnt l (x1, x2, x3, x4).1 (x1, x2, x3, x4).2.1 (x1, x2, x3, x4).2.2.1 : Nat) : Int) := by show ¬ m ≤ (cnt l x1 x2 x3 : Int); rw [HC.out]; exact hc
                by_cases hl : n = 4096
                · have HE := Lib.hid (AW3.out.2.2.1 HB.out (by first | exact hcn | exact Int.not_le.1 hcn) (HLN.out.trans hl))
                  have hl3 : ((n : Int) == 4096) = true := by rw [hl]; rfl
                  clear AW3 hcn
                  go_wp2_with fail
                  go_ret2
                  exact FIN.out _ 4 K4.out HE.out (by decide)
                · have HE := Lib.hid (AW3.out.2.2.2 HB.out (by first | exact hcn | exact Int.not_le.1 hcn) (by rw [HLN.out]; exact hl))
                  have hl3 : ((n : Int) == 4096) = false := by simp; omega
                  have hsl := fun V => slice_full (some ⟨b, o, none⟩) n c HI.out.cap V
                  clear AW3 hcn
                  go_upto_region 14 with fail
                  refine wp_region_held_drew (S := fun Vx => Bel w4 Vx) (by kernel_rfl) (Bel.refl _).drew (fun hS0 => ?_)
                  have HS6 := Lib.hid hS0
                  obtain ⟨w6, hw6⟩ : ∃ w6, World.drew w4 = w6 := ⟨_, rfl⟩
                  rw [hw6] at hS0 HS6 ⊢
                  clear hw6
                  have HX := Lib.hid (Rw.rs_one hR (r := (x1, x2, x3, x4)) (Blk.new w6 #[.int .i64 x1, .int .i64 x2, .int .i64 x3, .int .i64 x4] 24))
                  have HS7 := Lib.hid ((HI.out.cut (c' := n) (Nat.le_refl _) (fun h => by have := HI.out.nil h; have := HI.out.cap; omega)).bel ((K4.out.trans HS6.out).alloc (.cells #[.int .i64 x1, .int .i64 x2, .int .i64 x3, .int .i64 x4] 24)))
                  obtain ⟨cap, W9, hAP, hRB, hOW, hB9⟩ := Rw.run_append_full hR 22 22 24 underH zero_h rfl (by decide) HS7.out HX.out (by omega) (by omega)
                  obtain ⟨W7, hW7⟩ : ∃ W7, w6.alloc (.cells #[.int .i64 x1, .int .i64 x2, .int .i64 x3, .int .i64 x4] 24) = W7 := ⟨_, rfl⟩
                  have H7 := Lib.hid (show Bel w4 W7 by rw [← hW7]; exact HS6.out.alloc _)
                  have H67 := Lib.hid hW7
                  rw [hW7] at hAP hOW hB9
                  have HAP := Lib.hid hAP
                  have HOW := Lib.hid hOW
                  have HB9 := Lib.hid hB9
                  clear hAP hRB hOW hB9 hW7 HX HS7
                  refine wpAnyH_take (i := 0) (oi := { dst := some 57, op := .move (.tmp 0), type := 22, pos := "hop.go:51", after := #[], guard := none }) (v := .slice (some ⟨b, o, none⟩) n c) rfl (by kernel_rfl) (by kernel_rfl) (by kernel_rfl) (fun _ _ _ h => h) (Or.inl ⟨by rfl, by intro w hSw; clear hSw; go_simp⟩) hS0 ?_
                  try simp only [Act.put, List.setIfInBounds_toArray, List.set_cons_zero, List.set_cons_succ]
                  refine wpAnyH_take (i := 1) (oi := { dst := some 58, op := .move (.tmp 0), type := 22, pos := "hop.go:51", after := #[], guard := none }) (v := .slice (some ⟨b, o, none⟩) n c) rfl (by kernel_rfl) (by kernel_rfl) (by kernel_rfl) (fun _ _ _ h => h) (Or.inl ⟨by rfl, by intro w hSw; clear hSw; go_simp⟩) hS0 ?_
                  try simp only [Act.put, List.setIfInBounds_toArray, List.set_cons_zero, List.set_cons_succ]
                  refine wpAnyH_take (i := 2) (oi := { dst := some 59, op := .call { callee := .builtin .len, args := #[.tmp 58], argTypes := #[22] }, type := 3, pos := "hop.go:51", after := #[{ on := 1, ground := .data }], guard := none }) (v := .int .i64 n) rfl (by kernel_rfl) (by kernel_rfl) (by kernel_rfl) (fun _ _ _ h => h) (Or.inl ⟨by rfl, by intro w hSw; clear hSw; go_simp⟩) hS0 ?_
                  try simp only [Act.put, List.setIfInBounds_toArray, List.set_cons_zero, List.set_cons_succ]
                  refine wpAnyH_take (i := 3) (oi := { dst := some 60, op := .move (.tmp 0), type := 22, pos := "hop.go:51", after := #[], guard := none }) (v := .slice (some ⟨b, o, none⟩) n c) rfl (by kernel_rfl) (by kernel_rfl) (by kernel_rfl) (fun _ _ _ h => h) (Or.inl ⟨by rfl, by intro w hSw; clear hSw; go_simp⟩) hS0 ?_
                  try simp only [Act.put, List.setIfInBounds_toArray, List.set_cons_zero, List.set_cons_succ]
                  refine wpAnyH_take (i := 4) (oi := { dst := some 61, op := .call { callee := .builtin .len, args := #[.tmp 60], argTypes := #[22] }, type := 3, pos := "hop.go:51", after := #[{ on := 3, ground := .data }], guard := none }) (v := .int .i64 n) rfl (by kernel_rfl) (by kernel_rfl) (by kernel_rfl) (fun _ _ _ h => h) (Or.inl ⟨by rfl, by intro w hSw; clear hSw; go_simp⟩) hS0 ?_
                  try simp only [Act.put, List.setIfInBounds_toArray, List.set_cons_zero, List.set_cons_succ]
                  refine wpAnyH_take (i := 5) (oi := { dst := some 62, op := .slice 22 (.tmp 57) none (some (.tmp 59)) (some (.tmp 61)), type := 22, pos := "hop.go:51", after := #[{ on := 0, ground := .data }, { on := 2, ground := .data }, { on := 4, ground := .data }], guard := none }) (v := .slice (some ⟨b, o, none⟩) n n) rfl (by kernel_rfl) (by kernel_rfl) (by kernel_rfl) (fun _ _ _ h => h) (Or.inl ⟨by rfl, by intro w hSw; clear hSw; go_simp⟩) hS0 ?_
                  try simp only [Act.put, List.setIfInBounds_toArray, List.set_cons_zero, List.set_cons_succ]
                  refine wpAnyH_take (i := 6) (oi := { dst := some 63, op := .load 24 (.tmp 4), type := 24, pos := "hop.go:51", after := #[], guard := none }) (v := .agg #[.int .i64 x1, .int .i64 x2, .int .i64 x3, .int .i64 x4]) rfl (by kernel_rfl) (by kernel_rfl) (by kernel_rfl) (fun _ _ _ h => h) (yieldsIf_load_mid (by rfl) _ _ rfl _ _ rfl _ _ (fun w h => rng_bel (rngB (C := [.int .i64 x1, .int .i64 x2, .int .i64 x3, .int .i64 x4]) P4.out) h) Try.underlying24 rfl info_h) hS0 ?_
                  try simp only [Act.put, List.setIfInBounds_toArray, List.set_cons_zero, List.set_cons_succ]
                  refine wpAnyH_ready (rs := [7]) (by kernel_rfl) (by simp) ?_
                  refine AllReadyH.cons (o := { dst := some 64, op := .buildSlice 22 1 #[(0, .tmp 63)], type := 22, pos := "hop.go:51", after := #[{ on := 6, ground := .data }], guard := none }) rfl (fun K hK => ?_) AllReadyH.nil
                  go_simp
                  refine hK.out _ _ (HS6.out.alloc _) (fun hS1 => ?_)
                  clear hK K
                  try simp only [Act.put, List.setIfInBounds_toArray, List.set_cons_zero, List.set_cons_succ]
                  refine wpAnyH_ready (rs := [8]) (by kernel_rfl) (by simp) ?_
                  refine AllReadyH.cons (o := { dst := some 65, op := .call { callee := .builtin .append, args := #[.tmp 62, .tmp 64], argTypes := #[22, 22] }, type := 22, pos := "hop.go:51", after := #[{ on := 5, ground := .data }, { on := 7, ground := .data }], guard := none }) rfl (fun K hK => ?_) AllReadyH.nil
                  rw [H67.out]
                  refine Rw.step_append_run rfl (.tmp 62) (.tmp 64) 22 22 rfl _ _ (by simp [Act.eval, Act.put]) (by simp [Act.eval, Act.put]) HAP.out ?_
                  refine hK.out _ _ (H7.out.trans HB9.out) (fun hS2 => ?_)
                  clear hK K
                  try simp only [Act.put, List.setIfInBounds_toArray, List.set_cons_zero, List.set_cons_succ]
                  refine wpAnyH_take (i := 9) (oi := { dst := some 6, op := .assign (.tmp 65), type := 22, pos := "hop.go:51", after := #[{ on := 8, ground := .data }, { on := 8, ground := .chain }, { on := 0, ground := .phase }, { on := 1, ground := .phase }, { on := 2, ground := .phase }, { on := 3, ground := .phase }, { on := 4, ground := .phase }, { on := 5, ground := .phase }, { on := 6, ground := .phase }, { on := 7, ground := .phase }, { on := 8, ground := .phase }], guard := none }) (v := .slice (some ⟨(World.heap W7).size, 0, none⟩) (n + 1) cap) rfl (by kernel_rfl) (by kernel_rfl) (by kernel_rfl) (fun _ _ _ h => h) (Or.inl ⟨by rfl, by intro w hSw; clear hSw; go_simp⟩) hS2 ?_
                  try simp only [Act.put, List.setIfInBounds_toArray, List.set_cons_zero, List.set_cons_succ]
                  refine wpAnyH_take (i := 10) (oi := { dst := some 7, op := .assign (.const (Value.int IntKind.i64 0)), type := 27, pos := "hop.go:51", after := #[{ on := 9, ground := .chain }, { on := 0, ground := .phase }, { on := 1, ground := .phase }, { on := 2, ground := .phase }, { on := 3, ground := .phase }, { on := 4, ground := .phase }, { on := 5, ground := .phase }, { on := 6, ground := .phase }, { on := 7, ground := .phase }, { on := 8, ground := .phase }, { on := 9, ground := .phase }], guard := none }) (v := .int .i64 0) rfl (by kernel_rfl) (by kernel_rfl) (by kernel_rfl) (fun _ _ _ h => h) (Or.inl ⟨by rfl, by intro w hSw; clear hSw; go_simp⟩) hS2 ?_
                  try simp only [Act.put, List.setIfInBounds_toArray, List.set_cons_zero, List.set_cons_succ]
                  refine wpAnyH_done (by kernel_rfl) ?_ _
                  go_wp2_with fail
                  go_ret2
                  refine ⟨_, by rw [HE.out]; rfl, ?_, (K4.out.trans H7.out).trans HB9.out⟩
                  rw [addL_eq HE.out]
                  exact HOW.out.mono (Nat.le_trans (Below.size K4.out) (Below.size H7.out))
  · have HE := Lib.hid (AW.out.1 h0)
    have hne : (e1 != 0) = true := by rw [bne_iff_ne]; exact h0
    have H0 := Lib.hid h0
    clear h0
    go_wp2_with fail
    go_ret2
    exact FIN.out _ e1 K1.out HE.out H0.out
end Hp
end Go.Proofs.Ytahhnfnonekbmaa
end
