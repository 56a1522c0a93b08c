/-
  A slice of ints that grows by one number at a time, and the record that is made of it. No condition.
-/
import Derived.Maps.AppendAt
import Derived.Test.YtpohcdfmkcfonaaGreatDoorPB
namespace Go.Proofs.YtpohcdfmkcfonaaGreatDoor
open Go.RowKit Go.Shelf
set_option linter.unusedVariables false
namespace Pm
open Kk

theorem info_parts1 {P : Program} {t : TypeId} {z : Value} {s b : Nat} (h : (P.info? t).map (fun i => (i.zero, i.size, i.bytes)) = some (some z, s, b)) : ∃ i, P.info? t = some i ∧ i.zero = some z ∧ i.size = s ∧ i.bytes = b := by
  cases hi : P.info? t with
  | none => rw [hi] at h; cases h
  | some i =>
    rw [hi] at h
    simp at h
    exact ⟨i, rfl, h.1, h.2.1, h.2.2⟩
theorem wpList_append_int {w : World} {ops : Array Oper} {rest : List Oper} {o : Oper} {a : Act} {Q : Exit → Act → World → Prop} (hgd : o.guard = none) (s x : Operand)
    (ho : o.op = .call { callee := .builtin .append, args := #[s, x], argTypes := #[62, 62] })
    (base : Nat) (v : Value) (k : Nat) (xs : List Int) (hs : a.eval s = v) (hown : w.ownsRow base 3 1 v k (xs.map (Value.int .i64))) (ad : Addr) (z : Int) (hx : a.eval x = .slice (some ad) 1 1) (hc : w.cell? ad = some (.int .i64 z))
    (hk : k ≤ 1000) (hb : base ≤ w.heap.size)
    (h : ∀ v' w', w'.ownsRow base 3 1 v' (k + 1) ((xs ++ [z]).map (Value.int .i64)) → w.grownBy w' v.ownBlock → wpList Tryz.prog ops Q rest (a.put o.dst v') w') : wpList Tryz.prog ops Q (o :: rest) a w := by
  obtain ⟨i0, h1, hz0, hz1, hz2⟩ := info_parts1 info_int
  refine wpList_append_own_at w hgd s x 62 ho base 3 i0 (.int .i64 0) 1 8 Tryz.underlying62 h1 hz0 hz1 hz2 rfl (by decide) v k _ hs hown ad 1 1 [.int .i64 z] hx rfl ?_ ?_ (by unfold maxLen; omega) (by omega) hb ?_
  · intro j u hu
    match j, hu with
    | 0, hu =>
      simp at hu
      subst hu
      simpa [Addr.add] using hc
  · intro u hu
    simp at hu
    subst hu
    rfl
  · intro v' w' h2 h3 _ _
    exact h v' w' (by rw [List.map_append]; exact h2) h3
/-- The numbers so far. -/
def sofar (x : Nat → Int) (k : Nat) : List Int := (List.range k).map x
theorem sofar_len (x : Nat → Int) (k : Nat) : (sofar x k).length = k := by unfold sofar; simp
theorem sofar_at (x : Nat → Int) {k i : Nat} (h : i < k) : (sofar x k).getD i 0 = x i := by
  rw [getD_eq _ _ (by rw [sofar_len]; exact h)]
  unfold sofar
  simp
theorem sofar_next (x : Nat → Int) (k : Nat) (v : Int) : sofar (upd x k v) (k + 1) = sofar x k ++ [v] := by
  unfold sofar
  rw [List.range_succ, List.map_append]
  have e1 : (List.range k).map (upd x k v) = (List.range k).map x := List.map_congr_left fun j hj => upd_other x v (by have := List.mem_range.1 hj; omega)
  rw [e1]
  simp [upd_at]
theorem toR_sofar (x : Nat → Int) (hb : ∀ j, j < 11 → 0 ≤ x j ∧ x j ≤ 18446744073709551615) : recC (toR (sofar x 11)) = recC x := recC_congr fun j hj => by
  unfold toR xg
  rw [sofar_at x hj]
  split
  · exact wrap_in _ (hb j hj).1 (hb j hj).2
  · rfl
/-- The record of a grown slice. -/
theorem recordO (base : Nat) (v : Value) (x : Nat → Int) (hb : ∀ j, j < 11 → 0 ≤ x j ∧ x j ≤ 18446744073709551615) (w : World) (h : w.ownsRow base 3 1 v 11 ((sofar x 11).map (Value.int .i64))) : Calls Tryz.prog 35 #[v] w (RecE x w) := by
  obtain ⟨A, c, rfl, hi, hc, _⟩ := ints_of_own h
  obtain ⟨b, o, rfl, _, _⟩ := hi.cell (i := 0) (by decide)
  have hr : w.rangeAt b o ((sofar x 11).map (Value.int .i64)) := fun j u hu => by
    rw [List.getElem?_map] at hu
    cases hj : (sofar x 11)[j]? with
    | none => rw [hj] at hu; cases hu
    | some z =>
      rw [hj] at hu
      simp at hu
      obtain ⟨hlt, hz⟩ := List.getElem?_eq_some_iff.1 hj
      rw [sofar_len] at hlt
      obtain ⟨b', o', e, _, hcell⟩ := hi.cell hlt
      injection e with e
      injection e with e1 e2 _
      rw [e1, e2, hcell, ← hu, getD_eq _ _ (by rw [sofar_len]; exact hlt), hz]
  refine (recordK b o c (sofar x 11) (sofar_len x 11) hc w hr).mono fun e w' he => ?_
  exact ⟨by rw [he.1, toR_sofar x hb], he.2⟩
end Pm
end Go.Proofs.YtpohcdfmkcfonaaGreatDoor
