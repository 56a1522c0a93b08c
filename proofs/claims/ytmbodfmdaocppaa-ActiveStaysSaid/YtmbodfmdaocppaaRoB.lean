/-
  Lists of bools: in memory, grown, and what SameBools tells of two. Conditions: at most a billion bools.
-/
import Derived.Test.YtmbodfmdaocppaaRw
import Derived.WalkMore
import Derived.Maps.AppendAt
import Derived.Laws.OwnMore
namespace Go.Proofs.Ytmbodfmdaocppaa
open Go.RowKit Go.Shelf
set_option linter.unusedVariables false
set_option linter.unusedSimpArgs false
namespace Ro
open Kk Pm

def bR : Rw.Row Bool where
  k := fun b => [.bool b]
  z := 1
  len := fun _ => rfl
  one := fun r u hu => by
    rw [List.mem_singleton] at hu
    subst hu; rfl
  pos := by decide
abbrev OwnB (w : World) (base : Nat) (v : Value) (l : List Bool) : Prop := Rw.OwnR bR 4 w base v l
theorem zero_b : (Try.prog.info? 4).map (fun i => (i.zero, i.size, i.bytes)) = some (some (.bool false), 1, 1) := by kernel_rfl
theorem underB : Try.prog.underlying 23 = some (.slice 4) := by kernel_rfl
theorem flat_b : ∀ l : List Bool, Rw.flat bR l = l.map Value.bool
  | [] => rfl
  | b :: l => by
    show [Value.bool b] ++ Rw.flat bR l = _
    rw [flat_b l]; rfl
theorem bool_at {w : World} {A : Option Addr} {n c : Nat} {l : List Bool} (h : Rw.RS bR w A n c l) {i : Nat} (hi : i < n) : ∃ b o x, A = some ⟨b, o, none⟩ ∧ b < w.heap.size ∧ l[i]? = some x ∧ w.cell? ⟨b, o + i, none⟩ = some (.bool x) := by
  obtain ⟨x, hx⟩ := h.get hi
  obtain ⟨b, o, e, hb, hr⟩ := h.at hi hx
  have := hr 0 (.bool x) rfl
  exact ⟨b, o, x, e, hb, hx, by simpa [bR] using this⟩
theorem info_parts1 {P : Program} {t : TypeId} {z : Value} {s b : Nat} (h : (P.info? t).map (fun i => (i.zero, i.size, i.bytes)) = some (some z, s, b)) : ∃ i, P.info? t = some i ∧ i.zero = some z ∧ i.size = s ∧ i.bytes = b := by
  cases hi : P.info? t with
  | none => rw [hi] at h; cases h
  | some i =>
    rw [hi] at h
    simp at h
    exact ⟨i, rfl, h.1, h.2.1, h.2.2⟩
theorem append_b {w : World} {ops : Array Oper} {rest : List Oper} {o : Oper} {a : Act} {Q : Exit → Act → World → Prop} (hgd : o.guard = none) (s x : Operand)
    (ho : o.op = .call { callee := .builtin .append, args := #[s, x], argTypes := #[23, 23] })
    (base : Nat) (v : Value) (l : List Bool) (hs : a.eval s = v) (hown : OwnB w base v l) (ad : Addr) (z : Bool) (hx : a.eval x = .slice (some ad) 1 1) (hc : w.cell? ad = some (.bool z))
    (hk : l.length ≤ 1000000000) (hb : base ≤ w.heap.size)
    (h : ∀ v' w', OwnB w' base v' (l ++ [z]) → w.grownBy w' v.ownBlock → wpList Try.prog ops Q rest (a.put o.dst v') w') : wpList Try.prog ops Q (o :: rest) a w := by
  obtain ⟨i0, h1, hz0, hz1, hz2⟩ := info_parts1 zero_b
  refine wpList_append_own_at w hgd s x 23 ho base 4 i0 (.bool false) 1 1 underB h1 hz0 hz1 hz2 rfl (by decide) v l.length (Rw.flat bR l) hs hown ad 1 1 [.bool z] hx rfl ?_ ?_ (by unfold maxLen; omega) (by omega) hb ?_
  · intro j u hu
    match j, hu with
    | 0, hu =>
      simp at hu
      subst hu
      simpa [Addr.add] using hc
  · intro u hu
    simp at hu
    subst hu
    rfl
  · intro v' w' h2 h3 _ _
    refine h v' w' ?_ h3
    show w'.ownsRow base 4 1 v' (l ++ [z]).length (Rw.flat bR (l ++ [z]))
    rw [Rw.flat_app, List.length_append]
    exact h2

end Ro
end Go.Proofs.Ytmbodfmdaocppaa
