/-
  An append to a slice without room behind it (l[:n:n]): new memory, whatever the slice lies in. Conditions: at most two billion rows.
-/
import Derived.Laws.AppendOwn
import Derived.Deep.AppendLies
import Derived.Test.YtcefjigbaglmeaaGreatGRw
namespace Go.Proofs.YtcefjigbaglmeaaGreat
open Go.RowKit Go.Shelf
set_option linter.unusedVariables false
namespace Rw
open Kk Pm
variable {α : Type}
theorem run_append_full (K : Row α) {P : Program} {w : World} (t ty e : TypeId) (hu : P.underlying t = some (.slice e)) {zs : Array Value} {bytes : Nat} (hz : (P.info? e).map (fun i => (i.zero, i.size, i.bytes)) = some (some (.agg zs), K.z, bytes)) (hzs : zs.size = K.z) (hby : bytes ≤ 1000)
    {A : Option Addr} {n : Nat} {l : List α} (hs : RS K w A n n l) {B : Addr} {m c : Nat} {l2 : List α} (hx : RS K w (some B) m c l2) (hm0 : 0 < m) (hm : n + m ≤ 2000000000) :
    ∃ cap W, (Builtin.append_ #[t, t] ty #[.slice A n n, .slice (some B) m c]).run P w = .ok (.slice (some ⟨w.heap.size, 0, none⟩) (n + m) cap) W ∧ RB K e W w.heap.size (l ++ l2) cap ∧ OwnR K e W w.heap.size (.slice (some ⟨w.heap.size, 0, none⟩) (n + m) cap) (l ++ l2) ∧ Bel w W := by
  obtain ⟨i0, h1, hz0, hz1, hz2⟩ := info_parts hz
  have hk : (n + m) * bytes ≤ 2000000000 * 1000 := Nat.mul_le_mul hm hby
  have hll : (flat K l).length = n * i0.size := by rw [flat_len K, hs.len, hz1]
  have hl2 : (flat K l2).length = m * i0.size := by rw [flat_len K, hx.len, hz1]
  have new : ∀ old, old < n + m → ∃ cap W, cap = grownCap w (n + m) old e ∧ W = w.drew.alloc (.cells ((flat K l).toArray ++ (flat K l2).toArray ++ Builtin.zeroCells (Value.agg zs).cells (grownCap w (n + m) old e - (n + m))) e) ∧
      RB K e W w.heap.size (l ++ l2) cap ∧ OwnR K e W w.heap.size (.slice (some ⟨w.heap.size, 0, none⟩) (n + m) cap) (l ++ l2) ∧ Bel w W := by
    intro old ho
    have hge := grownCap_ge w (n + m) old e
    have hcm : grownCap w (n + m) old e ≤ maxLen := grownCap_le_maxLen w (n + m) old e (by unfold maxLen; omega)
    have hsz : ((flat K l).toArray ++ (flat K l2).toArray ++ Builtin.zeroCells (Value.agg zs).cells (grownCap w (n + m) old e - (n + m))).size = grownCap w (n + m) old e * K.z := by
      simp only [Array.size_append, List.size_toArray, size_zeroCells, hll, hl2, hz1]
      show n * K.z + m * K.z + _ * zs.size = _
      rw [hzs, ← Nat.add_mul, ← Nat.add_mul]
      congr 1
      omega
    have htk : ((flat K l).toArray ++ (flat K l2).toArray ++ Builtin.zeroCells (Value.agg zs).cells (grownCap w (n + m) old e - (n + m))).toList.take ((n + m) * K.z) = flat K (l ++ l2) := by
      have hlen : (flat K (l ++ l2)).length = (n + m) * K.z := by rw [flat_len K, List.length_append, hs.len, hx.len]
      rw [Array.toList_append, Array.toList_append, ← hlen, flat_app]
      exact List.take_left
    have hlen2 : (l ++ l2).length = n + m := by rw [List.length_append, hs.len, hx.len]
    refine ⟨_, _, rfl, rfl, ⟨⟨_, heap_alloc_new w.drew _, by rw [hlen2]; exact htk, hsz⟩, by rw [hlen2]; exact hge⟩, ?_, ((Bel.refl w).drew).alloc _⟩
    refine ⟨?_, .inr ⟨w.heap.size, _, _, ?_, Nat.le_refl _, heap_alloc_new w.drew _, ?_, hcm, hsz, ?_⟩⟩
    · rw [flat_len K]
    · rw [hlen2]
    · rw [hlen2]; exact hge
    · rw [hlen2]; exact htk
  cases A with
  | none =>
    obtain rfl : n = 0 := by have := hs.nil rfl; omega
    have hl : l = [] := List.length_eq_zero_iff.1 hs.len
    subst hl
    obtain ⟨cap, W, rfl, rfl, h3, h4, h5⟩ := new 0 (by omega)
    have hr := run_append_nil (P := P) w t ty e i0 (.agg zs) hu h1 hz0 B m c (flat K l2) hl2 (rs_news K hx) hm0 (by omega) (by rw [hz2]; have := hk; rw [Nat.zero_add] at this; omega)
    refine ⟨_, _, ?_, h3, h4, h5⟩
    rw [hr]
    simp [flat]
  | some b =>
    obtain ⟨cap, W, rfl, rfl, h3, h4, h5⟩ := new n (by omega)
    exact ⟨_, _, run_append_grow (P := P) w t ty e i0 (.agg zs) hu h1 hz0 b n n (flat K l) hll (rs_news K hs) B m c (flat K l2) hl2 (rs_news K hx) (by omega) (by omega) (growslice_fits (by omega) (by rw [hz2]; omega)), h3, h4, h5⟩
theorem wpList_append_full (K : Row α) {P : Program} {w : World} {ops : Array Oper} {rest : List Oper} {o : Oper} {a : Act} {Q : Exit → Act → World → Prop} (hgd : o.guard = none) (s x : Operand) (t e : TypeId)
    (ho : o.op = .call { callee := .builtin .append, args := #[s, x], argTypes := #[t, t] }) (hu : P.underlying t = some (.slice e)) {zs : Array Value} {bytes : Nat} (hz : (P.info? e).map (fun i => (i.zero, i.size, i.bytes)) = some (some (.agg zs), K.z, bytes)) (hzs : zs.size = K.z) (hby : bytes ≤ 1000)
    {A : Option Addr} {n : Nat} {l : List α} (hs : a.eval s = .slice A n n) (hS : RS K w A n n l) {B : Addr} {m c : Nat} {l2 : List α} (hx : a.eval x = .slice (some B) m c) (hX : RS K w (some B) m c l2) (hm0 : 0 < m) (hm : n + m ≤ 2000000000)
    (h : ∀ cap W, RB K e W w.heap.size (l ++ l2) cap → OwnR K e W w.heap.size (.slice (some ⟨w.heap.size, 0, none⟩) (n + m) cap) (l ++ l2) → Bel w W → wpList P ops Q rest (a.put o.dst (.slice (some ⟨w.heap.size, 0, none⟩) (n + m) cap)) W) : wpList P ops Q (o :: rest) a w :=
  wpList_plain hgd fun K' hK' => by
    obtain ⟨cap, W, hr, h2, h3, h4⟩ := run_append_full K t o.type e hu hz hzs hby hS hX hm0 hm
    unfold Oper.wp execOp
    simp only [ho, resolve, invoke, builtin, Sem.run_bind, Sem.run_pure, Result.andThen_ok, List.map_toArray, List.map_cons, List.map_nil, hs, hx, hr]
    exact hK' _ _ (h cap W h2 h3 h4)
theorem step_append_run {P : Program} {ops : Array Oper} {o : Oper} {a : Act} {w : World} {K : Act → World → Prop} {Q : Exit → Act → World → Prop} {E : Prop}
    (hg : o.guard = none) (d x : Operand) (dT sT : TypeId) (hop : o.op = Op.call { callee := Callee.builtin Builtin.append, args := #[d, x], argTypes := #[dT, sT] })
    (v u : Value) (hd : a.eval d = v) (hx : a.eval x = u) {v' : Value} {w' : World} (hr : (Builtin.append_ #[dT, sT] o.type #[v, u]).run P w = .ok v' w') (hK : K (a.put o.dst v') w') :
    if Region.wanted o (yielded ops a.tmps) = true then Oper.wp P o a w K Q else E := by
  have hw : Region.wanted o (yielded ops a.tmps) = true := by simp [Region.wanted, hg]
  rw [if_pos hw]
  unfold Oper.wp
  simp [execOp, hop, resolve, invoke, builtin, hd, hx, hr, Result.andThen]
  exact hK
/-- An append to a list of one's own: the run. -/
theorem run_append_R (K : Row α) {P : Program} {w : World} (t ty e : TypeId) (hu : P.underlying t = some (.slice e)) {zs : Array Value} {bytes : Nat} (hz : (P.info? e).map (fun i => (i.zero, i.size, i.bytes)) = some (some (.agg zs), K.z, bytes)) (hzs : zs.size = K.z) (hby : bytes ≤ 1000)
    {base : Nat} {v : Value} {l : List α} (hown : OwnR K e w base v l) {B : Addr} {m c : Nat} {l2 : List α} (hx : RS K w (some B) m c l2) (hm0 : 0 < m) (hm : l.length + m ≤ 2000000000) (hb : base ≤ w.heap.size) :
    ∃ v' W, (Builtin.append_ #[t, t] ty #[v, .slice (some B) m c]).run P w = .ok v' W ∧ OwnR K e W base v' (l ++ l2) ∧ w.grownBy W v.ownBlock := by
  obtain ⟨i0, h1, hz0, hz1, hz2⟩ := info_parts hz
  have hk : (l.length + m) * bytes ≤ 2000000000 * 1000 := Nat.mul_le_mul hm hby
  obtain ⟨v', W, hr, h2, h3, _⟩ := run_append_own (P := P) w base t ty e i0 (.agg zs) K.z bytes hu h1 hz0 hz1 hz2 hzs K.pos v l.length (flat K l) hown B m c (flat K l2) (by rw [flat_len K, hx.len]) (rs_news K hx) (flat_one K l2) (by unfold maxLen; omega) (by omega) hb
  refine ⟨v', W, hr, ?_, h3⟩
  unfold OwnR
  rw [flat_app, List.length_append, hx.len]
  exact h2
/-- As append_R, told where the new row lies. -/
theorem wpList_append_lies (K : Row α) {P : Program} {w : World} {ops : Array Oper} {rest : List Oper} {o : Oper} {a : Act} {Q : Exit → Act → World → Prop} (hgd : o.guard = none) (s x : Operand) (ty t : TypeId)
    (ho : o.op = .call { callee := .builtin .append, args := #[s, x], argTypes := #[ty, ty] }) (hu : P.underlying ty = some (.slice t)) {zs : Array Value} {bytes : Nat} (hz : (P.info? t).map (fun i => (i.zero, i.size, i.bytes)) = some (some (.agg zs), K.z, bytes)) (hzs : zs.size = K.z) (hby : bytes ≤ 1000)
    (base : Nat) (v : Value) (l : List α) (hs : a.eval s = v) (hown : OwnR K t w base v l) (A : Option Addr) (m c : Nat) (l2 : List α) (hx : a.eval x = .slice A m c) (hi : RS K w A m c l2)
    (hm0 : 0 < m) (hm : l.length + m ≤ 2000000000) (hb : base ≤ w.heap.size)
    (h : ∀ g cap w', OwnR K t w' base (.slice (some ⟨g, 0, none⟩) (l.length + m) cap) (l ++ l2) → w.grownBy w' v.ownBlock → (v.ownBlock = some g ∨ g = w.heap.size) → g < w'.heap.size → wpList P ops Q rest (a.put o.dst (.slice (some ⟨g, 0, none⟩) (l.length + m) cap)) w') : wpList P ops Q (o :: rest) a w := by
  obtain ⟨i0, h1, hz0, hz1, hz2⟩ := info_parts hz
  obtain ⟨b, off, rfl, _⟩ := hi.row hm0
  have hk : (l.length + m) * bytes ≤ 2000000000 * 1000 := Nat.mul_le_mul hm hby
  refine Go.wpList_append_lies (w := w) hgd s x ty ho base t i0 (.agg zs) K.z bytes hu h1 hz0 hz1 hz2 hzs K.pos v l.length (flat K l) hs hown ⟨b, off, none⟩ m c (flat K l2) hx (by rw [flat_len K, hi.len]) (rs_news K hi) (flat_one K l2) hm0 (by unfold maxLen; omega) (by omega) hb w.heap.size rfl ?_
  intro g cap w' h2 h3 h4 h5
  refine h g cap w' ?_ h3 h4 h5
  unfold OwnR
  rw [flat_app, List.length_append, hi.len]
  exact h2
end Rw
end Go.Proofs.YtcefjigbaglmeaaGreat
