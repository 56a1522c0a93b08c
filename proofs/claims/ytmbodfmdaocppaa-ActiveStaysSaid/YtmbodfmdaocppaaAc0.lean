/-
  Appends to lists of ints and of words of one's own. Conditions: at most two billion elements.
-/
import Derived.Test.YtmbodfmdaocppaaAcB
import Derived.Test.YtmbodfmdaocppaaRwF
namespace Go.Proofs.Ytmbodfmdaocppaa
open Go.RowKit Go.Shelf
set_option linter.unusedVariables false
namespace Ac
open Kk Pm Ro

theorem info_i : (Try.prog.info? 3).map (fun i => (i.zero, i.size, i.bytes)) = some (some (.int .i64 0), 1, 8) := by kernel_rfl
theorem info_u : (Try.prog.info? 36).map (fun i => (i.zero, i.size, i.bytes)) = some (some (.int .u64 0), 1, 8) := by kernel_rfl
abbrev OwnI (w : World) (base : Nat) (v : Value) (l : List Nat) : Prop := Rw.OwnR iR 3 w base v l
abbrev OwnW (w : World) (base : Nat) (v : Value) (l : List Int) : Prop := Rw.OwnR uR 36 w base v l
theorem blk_row {W W' : World} {row : Option Nat} {b : Nat} {cs : Array Value} {t : TypeId} (h : Blk W b cs t) (hg : W.grownBy W' row) (hne : ¬ row = some b) : Blk W' b cs t := (hg.block b h.lt (fun e => hne e.symm)).trans h
theorem run_append_i {w : World} (t ty : TypeId) (hu : Try.prog.underlying t = some (.slice 3)) {base : Nat} {v : Value} {l : List Nat} (hown : OwnI w base v l) {B : Addr} {m c : Nat} {l2 : List Nat} (hx : Rw.RS iR w (some B) m c l2) (hm0 : 0 < m) (hm : l.length + m ≤ 2000000000) (hb : base ≤ w.heap.size) :
    ∃ v' W, (Builtin.append_ #[t, t] ty #[v, .slice (some B) m c]).run Try.prog w = .ok v' W ∧ OwnI W base v' (l ++ l2) ∧ w.grownBy W v.ownBlock := by
  obtain ⟨i0, h1, hz0, hz1, hz2⟩ := info_parts1 info_i
  obtain ⟨v', W, hr, h2, h3, _⟩ := run_append_own (P := Try.prog) w base t ty 3 i0 (.int .i64 0) 1 8 hu h1 hz0 hz1 hz2 rfl (by decide) v l.length (Rw.flat iR l) hown B m c (Rw.flat iR l2) (by rw [Rw.flat_len iR, hx.len]; rfl) (Rw.rs_news iR hx) (Rw.flat_one iR l2) (by unfold maxLen; omega) (by omega) hb
  refine ⟨v', W, hr, ?_, h3⟩
  show W.ownsRow base 3 1 v' (l ++ l2).length (Rw.flat iR (l ++ l2))
  rw [Rw.flat_app, List.length_append, hx.len]
  exact h2
theorem append_i {w : World} {ops : Array Oper} {rest : List Oper} {o : Oper} {a : Act} {Q : Exit → Act → World → Prop} (hgd : o.guard = none) (s x : Operand) (ty : TypeId)
    (ho : o.op = .call { callee := .builtin .append, args := #[s, x], argTypes := #[ty, ty] }) (hu : Try.prog.underlying ty = some (.slice 3))
    (base : Nat) (v : Value) (l : List Nat) (hs : a.eval s = v) (hown : OwnI w base v l) (ad : Addr) (m c : Nat) (l2 : List Nat) (hx : a.eval x = .slice (some ad) m c) (hi : Rw.RS iR w (some ad) m c l2)
    (hm : l.length + m ≤ 2000000000) (hb : base ≤ w.heap.size)
    (h : ∀ v' w', OwnI w' base v' (l ++ l2) → w.grownBy w' v.ownBlock → wpList Try.prog ops Q rest (a.put o.dst v') w') : wpList Try.prog ops Q (o :: rest) a w := by
  obtain ⟨i0, h1, hz0, hz1, hz2⟩ := info_parts1 info_i
  refine wpList_append_own w hgd s x ty ho base 3 i0 (.int .i64 0) 1 8 hu h1 hz0 hz1 hz2 rfl (by decide) v l.length (Rw.flat iR l) hs hown ad m c (Rw.flat iR l2) hx (by rw [Rw.flat_len iR, hi.len]; rfl) (Rw.rs_news iR hi) (Rw.flat_one iR l2) (by unfold maxLen; omega) (by omega) hb ?_
  intro v' w' h2 h3 _
  refine h v' w' ?_ h3
  show w'.ownsRow base 3 1 v' (l ++ l2).length (Rw.flat iR (l ++ l2))
  rw [Rw.flat_app, List.length_append, hi.len]
  exact h2
theorem append_w {w : World} {ops : Array Oper} {rest : List Oper} {o : Oper} {a : Act} {Q : Exit → Act → World → Prop} (hgd : o.guard = none) (s x : Operand) (ty : TypeId)
    (ho : o.op = .call { callee := .builtin .append, args := #[s, x], argTypes := #[ty, ty] }) (hu : Try.prog.underlying ty = some (.slice 36))
    (base : Nat) (v : Value) (l : List Int) (hs : a.eval s = v) (hown : OwnW w base v l) (A : Option Addr) (m c : Nat) (l2 : List Int) (hx : a.eval x = .slice A m c) (hi : Rw.RS uR w A m c l2)
    (hm : l.length + m ≤ 2000000000) (hb : base ≤ w.heap.size)
    (h : ∀ v' w', OwnW w' base v' (l ++ l2) → w.grownBy w' v.ownBlock → wpList Try.prog ops Q rest (a.put o.dst v') w') : wpList Try.prog ops Q (o :: rest) a w := by
  obtain ⟨i0, h1, hz0, hz1, hz2⟩ := info_parts1 info_u
  cases A with
  | none =>
    obtain rfl : c = 0 := hi.nil rfl
    obtain rfl : m = 0 := by have := hi.cap; omega
    have hz : l2 = [] := List.length_eq_zero_iff.1 hi.len
    subst hz
    refine wpList_append_own_none hgd s x ty ho base 36 i0 1 hu h1 v l.length (Rw.flat uR l) hs hown hx ?_
    exact h v w (by simpa using hown) ⟨rfl, rfl, rfl, Nat.le_refl _, fun _ _ _ => rfl⟩
  | some ad =>
    refine wpList_append_own w hgd s x ty ho base 36 i0 (.int .u64 0) 1 8 hu h1 hz0 hz1 hz2 rfl (by decide) v l.length (Rw.flat uR l) hs hown ad m c (Rw.flat uR l2) hx (by rw [Rw.flat_len uR, hi.len]; rfl) (Rw.rs_news uR hi) (Rw.flat_one uR l2) (by unfold maxLen; omega) (by omega) hb ?_
    intro v' w' h2 h3 _
    refine h v' w' ?_ h3
    show w'.ownsRow base 36 1 v' (l ++ l2).length (Rw.flat uR (l ++ l2))
    rw [Rw.flat_app, List.length_append, hi.len]
    exact h2
theorem append_bs {w : World} {ops : Array Oper} {rest : List Oper} {o : Oper} {a : Act} {Q : Exit → Act → World → Prop} (hgd : o.guard = none) (s x : Operand) (ty : TypeId)
    (ho : o.op = .call { callee := .builtin .append, args := #[s, x], argTypes := #[ty, ty] }) (hu : Try.prog.underlying ty = some (.slice 4))
    (base : Nat) (v : Value) (l : List Bool) (hs : a.eval s = v) (hown : OwnB w base v l) (A : Option Addr) (m c : Nat) (l2 : List Bool) (hx : a.eval x = .slice A m c) (hi : Rw.RS bR w A m c l2)
    (hm : l.length + m ≤ 2000000000) (hb : base ≤ w.heap.size)
    (h : ∀ v' w', OwnB w' base v' (l ++ l2) → w.grownBy w' v.ownBlock → wpList Try.prog ops Q rest (a.put o.dst v') w') : wpList Try.prog ops Q (o :: rest) a w := by
  obtain ⟨i0, h1, hz0, hz1, hz2⟩ := info_parts1 zero_b
  cases A with
  | none =>
    obtain rfl : c = 0 := hi.nil rfl
    obtain rfl : m = 0 := by have := hi.cap; omega
    have hz : l2 = [] := List.length_eq_zero_iff.1 hi.len
    subst hz
    refine wpList_append_own_none hgd s x ty ho base 4 i0 1 hu h1 v l.length (Rw.flat bR l) hs hown hx ?_
    exact h v w (by simpa using hown) ⟨rfl, rfl, rfl, Nat.le_refl _, fun _ _ _ => rfl⟩
  | some ad =>
    refine wpList_append_own w hgd s x ty ho base 4 i0 (.bool false) 1 1 hu h1 hz0 hz1 hz2 rfl (by decide) v l.length (Rw.flat bR l) hs hown ad m c (Rw.flat bR l2) hx (by rw [Rw.flat_len bR, hi.len]; rfl) (Rw.rs_news bR hi) (Rw.flat_one bR l2) (by unfold maxLen; omega) (by omega) hb ?_
    intro v' w' h2 h3 _
    refine h v' w' ?_ h3
    show w'.ownsRow base 4 1 v' (l ++ l2).length (Rw.flat bR (l ++ l2))
    rw [Rw.flat_app, List.length_append, hi.len]
    exact h2
end Ac
end Go.Proofs.Ytmbodfmdaocppaa
