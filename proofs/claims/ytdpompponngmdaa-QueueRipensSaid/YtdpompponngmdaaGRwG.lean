/-
  An append to a list of one's own, whether the operation is guarded or not. Conditions: at most two billion rows.
-/
import Derived.Laws.OwnMore
import Derived.Test.YtdpompponngmdaaGRwF
namespace Go.Proofs.Ytdpompponngmdaa
open Go.RowKit Go.Shelf
set_option linter.unusedVariables false
namespace Rw
open Kk Pm
variable {α : Type}
theorem append_g (K : Row α) {P : Program} {w : World} {ops : Array Oper} {rest : List Oper} {o : Oper} {a : Act} {Q : Exit → Act → World → Prop} (hw : Region.wanted o (yielded ops a.tmps) = true) (s x : Operand) (ty t : TypeId)
    (ho : o.op = .call { callee := .builtin .append, args := #[s, x], argTypes := #[ty, ty] }) (hu : P.underlying ty = some (.slice t)) {zs : Array Value} {bytes : Nat} (hz : (P.info? t).map (fun i => (i.zero, i.size, i.bytes)) = some (some (.agg zs), K.z, bytes)) (hzs : zs.size = K.z) (hby : bytes ≤ 1000)
    (base : Nat) (v : Value) (l : List α) (hs : a.eval s = v) (hown : OwnR K t w base v l) (A : Option Addr) (m c : Nat) (l2 : List α) (hx : a.eval x = .slice A m c) (hi : RS K w A m c l2)
    (hm : l.length + m ≤ 2000000000) (hb : base ≤ w.heap.size)
    (h : ∀ v' w', OwnR K t w' base v' (l ++ l2) → w.grownBy w' v.ownBlock → wpList P ops Q rest (a.put o.dst v') w') : wpList P ops Q (o :: rest) a w := by
  obtain ⟨i0, h1, hz0, hz1, hz2⟩ := info_parts hz
  cases A with
  | none =>
    obtain rfl : c = 0 := hi.nil rfl
    obtain rfl : m = 0 := by have := hi.cap; omega
    have hz : l2 = [] := List.length_eq_zero_iff.1 hi.len
    subst hz
    have hrun := run_append_owned_none (P := P) (w := w) base ty o.type t i0 K.z hu h1 v l.length (flat K l) hown
    refine wpList_step fun K' hK' => ?_
    rw [if_pos hw]
    unfold Oper.wp
    simp [execOp, ho, resolve, invoke, builtin, hs, hx, hrun, Result.andThen]
    exact hK' _ _ (h v w (by simpa using hown) ⟨rfl, rfl, rfl, Nat.le_refl _, fun _ _ _ => rfl⟩)
  | some ad =>
    have hk : (l.length + m) * bytes ≤ 2000000000 * 1000 := Nat.mul_le_mul hm hby
    obtain ⟨v', W, hr, h2, h3, _⟩ := run_append_own (P := P) w base ty o.type t i0 (.agg zs) K.z bytes hu h1 hz0 hz1 hz2 hzs K.pos v l.length (flat K l) hown ad m c (flat K l2) (by rw [flat_len K, hi.len]) (rs_news K hi) (flat_one K l2) (by unfold maxLen; omega) (by omega) hb
    refine wpList_step fun K' hK' => ?_
    rw [if_pos hw]
    unfold Oper.wp
    simp [execOp, ho, resolve, invoke, builtin, hs, hx, hr, Result.andThen]
    refine hK' _ _ (h v' W ?_ h3)
    unfold OwnR
    rw [flat_app, List.length_append, hi.len]
    exact h2
end Rw
end Go.Proofs.Ytdpompponngmdaa
