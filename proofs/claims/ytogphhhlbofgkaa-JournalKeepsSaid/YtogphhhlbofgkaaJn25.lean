/-
  The list of what the cells were: one more, one less, read. Condition: the state is as KS says.
-/
import Derived.Test.YtogphhhlbofgkaaJn24
namespace Go.Proofs.Ytogphhhlbofgkaa
open Go.RowKit Go.Shelf Go.Maps
set_option linter.unusedVariables false
namespace Jn
open Kk Pm Bk

theorem info_s : (Try.prog.info? 45).map (fun i => (i.zero, i.size, i.bytes)) = some (some (.slice none 0 0), 1, 24) := by kernel_rfl
theorem run_append_s {w : World} {base : Nat} {v : Value} {n : Nat} {xs : List Value} (h : w.ownsRow base 45 1 v n xs) (ty : TypeId) (a : Addr) (u : Value) (h0 : w.cell? (a.add 0) = some u) (h1 : u.oneCell' = true) (hm : n ≤ 1000) (hb : base ≤ w.heap.size) :
    ∃ v' w', (Builtin.append_ #[63, 63] ty #[v, .slice (some a) 1 1]).run Try.prog w = .ok v' w' ∧ w'.ownsRow base 45 1 v' (n + 1) (xs ++ [u]) ∧ w.grownBy w' v.ownBlock ∧ (v'.ownBlock = v.ownBlock ∨ v'.ownBlock = some w.heap.size) := by
  obtain ⟨i0, hi, hz0, hz1, hz2⟩ := info_parts info_s
  have ht := Try.underlying63
  have hnews : ∀ j x, [u][j]? = some x → w.cell? (a.add j) = some x := by
    intro j x hj
    match j, hj with
    | 0, hj => simp at hj; subst hj; exact h0
  have hone : ∀ x ∈ [u], x.oneCell' = true := by
    intro x hx
    rcases List.mem_cons.1 hx with rfl | hx
    · exact h1
    · cases hx
  have hl1 : [u].length = 1 * i0.size := by rw [hz1]; rfl
  obtain ⟨v', w', hr, h2, h3, _⟩ := run_append_own (P := Try.prog) w base 63 ty 45 i0 _ 1 24 ht hi hz0 hz1 hz2 rfl (by decide) v n xs h a 1 1 [u] rfl hnews hone (by unfold maxLen; omega) (by omega) hb
  refine ⟨v', w', hr, h2, h3, ?_⟩
  have H := h
  rcases h.2 with ⟨rfl, rfl⟩ | ⟨g, cap, cur, rfl, hbg, hg, hnc, hcm, hcs, htake⟩
  · have hr2 := run_append_nil (P := Try.prog) w 63 ty 45 i0 _ ht hi hz0 a 1 1 [u] hl1 hnews (by omega) (by omega) (by rw [hz2]; omega)
    have := hr.symm.trans hr2
    injection this with e _
    rw [e]
    exact .inr rfl
  · by_cases hroom : n + 1 ≤ cap
    · have hr2 := run_append_room (P := Try.prog) w 63 ty 45 i0 ht hi g n cap cur hg a 1 1 [u] hl1 hnews hone hroom (by rw [hz1, hcs]; simp; omega)
      have := hr.symm.trans hr2
      injection this with e _
      rw [e]
      exact .inl rfl
    · have holds : ∀ j x, xs[j]? = some x → w.cell? ((⟨g, 0, none⟩ : Addr).add j) = some x := H.cells (g := g) rfl
      have hr2 := run_append_grow (P := Try.prog) w 63 ty 45 i0 _ ht hi hz0 ⟨g, 0, none⟩ n cap xs (by rw [hz1, H.1]) holds a 1 1 [u] hl1 hnews (by omega) (by omega) (growslice_fits (by omega) (by rw [hz2]; omega))
      have := hr.symm.trans hr2
      injection this with e _
      rw [e]
      exact .inr rfl
theorem wpList_append_s {w : World} {ops : Array Oper} {rest : List Oper} {o : Oper} {a : Act} {Q : Exit → Act → World → Prop} (hgd : o.guard = none) (s x : Operand)
    (ho : o.op = .call { callee := .builtin .append, args := #[s, x], argTypes := #[63, 63] })
    (base : Nat) (v : Value) (n : Nat) (xs : List Value) (hs : a.eval s = v) (hown : w.ownsRow base 45 1 v n xs) (ad : Addr) (u : Value) (hx : a.eval x = .slice (some ad) 1 1) (h0 : w.cell? (ad.add 0) = some u) (h1 : u.oneCell' = true) (hm : n ≤ 1000) (hb : base ≤ w.heap.size)
    (h : ∀ v' w', w'.ownsRow base 45 1 v' (n + 1) (xs ++ [u]) → w.grownBy w' v.ownBlock → (v'.ownBlock = v.ownBlock ∨ v'.ownBlock = some w.heap.size) → wpList Try.prog ops Q rest (a.put o.dst v') w') : wpList Try.prog ops Q (o :: rest) a w := by
  refine wpList_plain hgd fun K hK => ?_
  obtain ⟨v', w', hr, h2, h3, h4⟩ := run_append_s hown o.type ad u h0 h1 hm hb
  unfold Oper.wp execOp
  simp only [ho, resolve, invoke, builtin, Sem.run_bind, Sem.run_pure, Result.andThen_ok, List.map_toArray, List.map_cons, List.map_nil, hs, hx, hr]
  exact hK _ _ (h v' w' h2 h3 h4)

section
variable {w0 w w' : World} {M I M2 I2 : Nat → Prop} {pj pk : Nat} {zs zs2 : List Int} {L : List Lv} {v : Value} {xs : List Value} {ws : List (List Int)}
/-- One more. -/
theorem KX.push {W : World} {B : Option Addr} {c : Nat} {ys : List Int} {v' : Value} (h : KX w0 w M I M2 I2 pj pk zs zs2 L v xs ws) (hW : Bel w W) (hi : Ints .u64 W B 6 ys) (hn : ∀ x, B = some x → w.heap.size ≤ x.block ∧ x.block < W.heap.size)
    (ho : w'.ownsRow w0.heap.size 45 1 v' (ws.length + 1) (xs.reverse ++ [.slice B 6 c])) (hg : W.grownBy w' v.ownBlock) (hb : v'.ownBlock = v.ownBlock ∨ v'.ownBlock = some W.heap.size) : KX w0 w' M I M2 I2 pj pk zs zs2 L v' (.slice B 6 c :: xs) (ys :: ws) := by
  have KW : Kep (fun b => v.ownBlock = some b) w w' := Kep.grown (Kep.of_bel hW) hg (fun k e _ => e)
  have KV : Kep (fun b => v.ownBlock = some b) W w' := Kep.grown (Kep.refl _ _) hg (fun k e _ => e)
  have f1 := h.j.facts
  have f2 := h.k.facts
  have hsz := Below.size hW
  have hlt : ∀ g, v.ownBlock = some g → g < w.heap.size := fun g e => (h.row.lt g e).2
  refine ⟨h.j.keep KW (fun b hm e => (h.ra b e).1 hm) (fun b hm e => (h.ra b e).2.1 hm), h.k.keep KW (fun b hm e => (h.ra b e).2.2.1 hm) (fun b hm e => (h.ra b e).2.2.2 hm), h.am, h.ak, h.m, h.m2,
    Kep.bel h.bel KW (fun g e => (h.row.lt g e).1), by rw [List.reverse_cons]; exact ho, fun g e => ?_, ⟨⟨B, c, rfl, KV.ints (fun x hx e => by have := hlt _ e; have := (hn x hx).1; omega) hi, fun x hx => ⟨?_, Nat.lt_of_lt_of_le (hn x hx).2 KV.size⟩⟩, WS.kep KW (fun b e => .inr (.inr e)) (fun b hlt2 hbad => ?_) h.ws⟩⟩
  · rcases hb with o | o
    · exact h.ra g (by rw [← o]; exact e)
    · rw [o] at e
      injection e with e
      subst e
      refine ⟨fun hm => ?_, fun hm => ?_, fun hm => ?_, fun hm => ?_⟩
      · have := f1.2.2.2.2.1 _ hm; omega
      · have := f1.2.2.2.2.2.1 _ hm; omega
      · have := f2.2.2.2.2.1 _ hm; omega
      · have := f2.2.2.2.2.2.1 _ hm; omega
  · have h1 := hn x hx
    rintro (hm | hm | e)
    · have := f1.2.2.2.2.1 _ hm; omega
    · have := f2.2.2.2.2.1 _ hm; omega
    · rcases hb with o | o
      · rw [o] at e
        have := hlt _ e; omega
      · rw [o] at e
        injection e with e
        omega
  · rcases hbad with hm | hm | e
    · exact .inl hm
    · exact .inr (.inl hm)
    · rcases hb with o | o
      · rw [o] at e; exact .inr (.inr e)
      · rw [o] at e
        injection e with e
        omega
/-- One less. -/
theorem KX.pop {ys : List Int} (h : KX w0 w M I M2 I2 pj pk zs zs2 L v xs (ys :: ws)) : ∃ g cap xs', v = .slice (some ⟨g, 0, none⟩) (ws.length + 1) cap ∧ ws.length ≤ cap ∧ KX w0 w M I M2 I2 pj pk zs zs2 L (.slice (some ⟨g, 0, none⟩) ws.length cap) xs' ws := by
  have hw := h.ws
  match xs, hw with
  | x :: xs', hw =>
    have hl := WS.len hw.2
    have hrow := h.row
    rcases hrow.2 with ⟨_, hn⟩ | ⟨g, cap, cur, e, hbg, hg, hnc, hcm, hcs, htake⟩
    · simp at hn
    · simp only [List.length_cons] at e hnc htake
      refine ⟨g, cap, xs', e, by omega, h.j, h.k, h.am, h.ak, h.m, h.m2, h.bel, ⟨by simp [hl], .inr ⟨g, cap, cur, rfl, hbg, hg, by omega, hcm, hcs, ?_⟩⟩, ?_, ?_⟩
      · have : cur.toList.take (ws.length * 1) = (cur.toList.take ((ws.length + 1) * 1)).take (ws.length * 1) := by rw [List.take_take, Nat.min_eq_left (by omega)]
        rw [this, htake, List.reverse_cons, List.take_left' (by simp [hl])]
      · intro k hk
        exact h.ra k (by rw [e]; exact hk)
      · refine WS.kep (S := fun _ => False) (Kep.refl _ w) (fun _ h => h.elim) (fun b _ hb => ?_) hw.2
        rcases hb with hb | hb | hb
        · exact .inl hb
        · exact .inr (.inl hb)
        · refine .inr (.inr ?_)
          rw [e]
          exact hb
  | [], hw => exact hw.elim
/-- Read. -/
theorem KX.at (h : KX w0 w M I M2 I2 pj pk zs zs2 L v xs ws) (i : Nat) (hi : i < ws.length) : ∃ g cap B c, v = .slice (some ⟨g, 0, none⟩) ws.length cap ∧ w.cell? ⟨g, i, none⟩ = some (.slice B 6 c) ∧ Ints .u64 w B 6 (ws.reverse.getD i []) ∧ ∀ x, B = some x → x.block < w.heap.size ∧ ¬ M x.block := by
  have hl := WS.len h.ws
  obtain ⟨B, c, e1, h1, h2⟩ := WS.get h.ws (ws.length - 1 - i) (by omega)
  have hrow := h.row
  rcases hrow.2 with ⟨_, hn⟩ | ⟨g, cap, cur, e, hbg, hg, hnc, hcm, hcs, htake⟩
  · omega
  · refine ⟨g, cap, B, c, e, ?_, ?_, fun x hx => ⟨(h2 x hx).2, fun hm => (h2 x hx).1 (.inl hm)⟩⟩
    · have := hrow.cells (g := g) (by rw [e]; rfl) i (.slice B 6 c) (by rw [List.getElem?_reverse (by omega), hl]; exact e1)
      have e3 : (⟨g, 0, none⟩ : Addr).add i = ⟨g, i, none⟩ := by
        unfold Addr.add
        by_cases h0 : i = 0
        · simp [h0]
        · simp [h0]
      rw [e3] at this
      exact this
    · have e2 : ws.reverse.getD i [] = ws.getD (ws.length - 1 - i) [] := by
        rw [List.getD_eq_getElem?_getD, List.getD_eq_getElem?_getD, List.getElem?_reverse hi]
      rw [e2]
      exact h1
end
end Jn
end Go.Proofs.Ytogphhhlbofgkaa
