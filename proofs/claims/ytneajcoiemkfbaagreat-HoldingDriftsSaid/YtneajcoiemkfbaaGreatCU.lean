/-
  Texts of this claim, put together: Ho42, HoLift. What each one says, and under which conditions, stands ahead of it.
-/
import Derived.Deep.Slices
import Derived.Test.YtneajcoiemkfbaaGreatCR
import Derived.Test.YtneajcoiemkfbaaGreatCO
import Derived.Test.YtneajcoiemkfbaaGreatCT

section
/-
  What near acts make of a holding that may be may be; what becomes of the tokens; the law's held. Conditions: as each theorem says.
-/
namespace Go.Proofs.YtneajcoiemkfbaaGreat
open Go.RowKit Go.Shelf
set_option linter.unusedVariables false
set_option linter.unusedSimpArgs false
namespace Ho
open Kk Pm

theorem chE_go {cs ps : List R6} (h : Ok cs ps) (E : Int) : chE cs ps E = E := (chE_ways cs ps E).2 ((ok_iff cs ps).2 h)
/-- What an act that is near, and not refused, makes. -/
theorem act_keeps {cs ps : List R6} (h : Hd6 cs ps) {k o a b d e v ht x : Int} (na : NearA k o a b d e v ht x) (hE : aE cs ps (k, o, a, b, d, e, v, ht, x) = 0) :
    Hd6 (aC cs ps (k, o, a, b, d, e, v, ht, x)) (aP cs ps (k, o, a, b, d, e, v, ht, x)) ∧ (aP cs ps (k, o, a, b, d, e, v, ht, x)).length ≤ ps.length + 1 ∧
      (k = 0 → sumT (aC cs ps (k, o, a, b, d, e, v, ht, x)) = sumT cs + x) ∧ (¬ k = 0 → sumT (aC cs ps (k, o, a, b, d, e, v, ht, x)) + aN cs ps (k, o, a, b, d, e, v, ht, x) = sumT cs ∧ 0 ≤ aN cs ps (k, o, a, b, d, e, v, ht, x)) ∧ (k = 2 → sumT (aL cs ps (k, o, a, b, d, e, v, ht, x)) = aN cs ps (k, o, a, b, d, e, v, ht, x)) ∧ (¬ k = 2 → aL cs ps (k, o, a, b, d, e, v, ht, x) = []) := by
  by_cases k0 : k = 0
  · subst k0
    have hj : bJE o a b d e (polT cs (a, b, d, e, 0, 0)) (polS cs (a, b, d, e, 0, 0)) cs.length (sumT cs) x = 0 := by
      have h1 : chE cs ps (bJE o a b d e (polT cs (a, b, d, e, 0, 0)) (polS cs (a, b, d, e, 0, 0)) cs.length (sumT cs) x) = 0 := hE
      rwa [chE_go h.ok] at h1
    obtain ⟨h1, h2, h3, h4⟩ := join_ok h rfl rfl na.x0 hj
    have eC : aC cs ps (0, o, a, b, d, e, v, ht, x) = _ := if_pos hE
    have eP : aP cs ps (0, o, a, b, d, e, v, ht, x) = _ := if_pos hE
    rw [eC, eP]
    exact ⟨h1, h4, fun _ => h2, fun c => absurd rfl c, fun c => absurd c (by decide), fun _ => rfl⟩
  · by_cases k1 : k = 1
    · subst k1
      have hj : bLE (polT cs (a, b, d, e, 0, 0)) (polS cs (a, b, d, e, 0, 0)) (shs ps (o, a, b, d, e, 0)) x = 0 := by
        have h1 : chE cs ps (bLE (polT cs (a, b, d, e, 0, 0)) (polS cs (a, b, d, e, 0, 0)) (shs ps (o, a, b, d, e, 0)) x) = 0 := hE
        rwa [chE_go h.ok] at h1
      obtain ⟨h1, h2, h3, _, h4⟩ := leave_ok h rfl rfl na.x0 hj
      have eC : aC cs ps (1, o, a, b, d, e, v, ht, x) = _ := if_pos hE
      have eP : aP cs ps (1, o, a, b, d, e, v, ht, x) = _ := if_pos hE
      have eN : aN cs ps (1, o, a, b, d, e, v, ht, x) = _ := if_pos hE
      rw [eC, eP, eN]
      exact ⟨h1, h4, fun c => absurd c (by decide), fun _ => ⟨h2, h3⟩, fun c => absurd c (by decide), fun _ => rfl⟩
    · have k2 : k = 2 := by have := na.k0; have := na.k2; omega
      subst k2
      have hj : bKE v ht x = 0 := by
        have h1 : chE cs ps (bKE v ht x) = 0 := hE
        rwa [chE_go h.ok] at h1
      obtain ⟨h1, h2, h3, _, h4⟩ := cut_keeps h na.x0 hj
      have eC : aC cs ps (2, o, a, b, d, e, v, ht, x) = _ := if_pos hE
      have eP : aP cs ps (2, o, a, b, d, e, v, ht, x) = _ := if_pos hE
      have eN : aN cs ps (2, o, a, b, d, e, v, ht, x) = _ := if_pos hE
      have eL : aL cs ps (2, o, a, b, d, e, v, ht, x) = _ := if_pos hE
      rw [eC, eP, eN, eL]
      exact ⟨h1, by omega, fun c => absurd c (by decide), fun _ => ⟨h2, h3⟩, fun _ => rfl, fun c => absurd rfl c⟩
/-- Acts in memory. -/
def Acts (w : World) (A : Option Addr) (n : Nat) : Prop := 0 < n → ∃ b o, A = some ⟨b, o, none⟩ ∧ b < w.heap.size ∧ ∀ i, i < n → ∃ k o' a b' d e v h x, ActW k o' a b' d e v h x ∧ w.rangeAt b (o + i * 9) [.int .i64 k, .int .i64 o', .int .i64 a, .int .i64 b', .int .i64 d, .int .i64 e, .int .i64 v, .int .i64 h, .int .u64 x]
theorem Acts.bel {w w' : World} {A : Option Addr} {n : Nat} (h : Acts w A n) (hb : Bel w w') : Acts w' A n := fun hn => by
  obtain ⟨b, o, e, hlt, hc⟩ := h hn
  refine ⟨b, o, e, Nat.lt_of_lt_of_le hlt (Below.size hb), fun i hi => ?_⟩
  obtain ⟨k, o', a, b', d, e, v, h, x, ha, hr⟩ := hc i hi
  exact ⟨k, o', a, b', d, e, v, h, x, ha, rng_bel hr hb⟩
/-- A variable that holds a holding that may be, in newer memory. -/
structure Vo (V : World) (g : Nat) (A : Option Addr) (n c : Nat) (B : Option Addr) (m d : Nat) (cs ps : List R6) : Prop where
  blk : Blk V g #[.slice A n c, .slice B m d] 25
  oc : OwnR cC 90 V (g + 1) (.slice A n c) cs
  op : OwnR cP 93 V (g + 1) (.slice B m d) ps
  hd : Hd6 cs ps
theorem Vo.bel {V V' : World} {g : Nat} {A : Option Addr} {n c : Nat} {B : Option Addr} {m d : Nat} {cs ps : List R6} (h : Vo V g A n c B m d cs ps) (hb : Bel V V') : Vo V' g A n c B m d cs ps := ⟨h.blk.bel hb, h.oc.bel hb, h.op.bel hb, h.hd⟩
theorem Vo.hh {V : World} {g : Nat} {A : Option Addr} {n c : Nat} {B : Option Addr} {m d : Nat} {cs ps : List R6} (h : Vo V g A n c B m d cs ps) (hm : ps.length ≤ 1000000) : HH V A n c B m d cs ps := by
  have h1 := own_rsC h.oc
  have h2 := own_rsP h.op
  have e1 := h1.len
  have e2 := h2.len
  exact ⟨h1, h2, by have := h.hd.ok.len; omega, by omega, h.hd.wc, h.hd.wp⟩
/-- The variable is set to another one. -/
theorem Vo.put {V : World} {g : Nat} {A : Option Addr} {n c : Nat} {B : Option Addr} {m d : Nat} {cs ps : List R6} (h : Vo V g A n c B m d cs ps) {A' : Option Addr} {n' c' : Nat} {B' : Option Addr} {m' d' base : Nat} {cs' ps' : List R6} (o1 : OwnR cC 90 V base (.slice A' n' c') cs') (o2 : OwnR cP 93 V base (.slice B' m' d') ps') (hb : g + 1 ≤ base) (hd : Hd6 cs' ps') :
    Vo ((V.setCell ⟨g, 0, none⟩ (.slice A' n' c')).setCell ⟨g, 1, none⟩ (.slice B' m' d')) g A' n' c' B' m' d' cs' ps' := by
  have K : Kep (fun b => b = g) V ((V.setCell ⟨g, 0, none⟩ (.slice A' n' c')).setCell ⟨g, 1, none⟩ (.slice B' m' d')) := Kep.set (S := fun b => b = g) (Kep.set (S := fun b => b = g) (Kep.refl _ _) rfl _) rfl _
  exact ⟨(h.blk.set 0 _).set 1 _, (o1.mono hb).kep K (fun i e e' => by have := own_ge o1 e; omega), (o2.mono hb).kep K (fun i e e' => by have := own_ge o2 e; omega), hd⟩
/-- Losses, as numbers from the head on. -/
theorem sumT_tk (l : List R6) (k : Nat) (r : R6) (h : l[k]? = some r) : sumT (l.take (k + 1)) = sumT (l.take k) + tok r := by
  rw [List.take_add_one, h]
  unfold sumT
  rw [List.map_append, List.sum_append]
  simp
end Ho
end Go.Proofs.YtneajcoiemkfbaaGreat
end

section
/-
  What structs of integers, as they come in as arguments, tell a walk. No condition.
-/
namespace Go.Proofs.YtneajcoiemkfbaaGreat
open Go.ChangeShapes Go.WideShapes Go.ChangeAt Go.RowKit
set_option linter.unusedVariables false
set_option linter.unusedSimpArgs false

set_option maxRecDepth 10000 in
theorem stamp_of {H : Type} {enc : TypeId × Value → H} {W : World} {cs : List Value} {fuel : Nat} {u : DataW H × List MemPlace} (hsz : cs.length = 4)
    (hf : DataW.trod enc Tryz.prog W 0 (fun _ => true) true fuel 37 cs = some u) : ∃ z0 z1 z2 z3 : Int, (-9223372036854775808 ≤ z0 ∧ z0 ≤ 9223372036854775807 ∧ -9223372036854775808 ≤ z1 ∧ z1 ≤ 9223372036854775807 ∧ -9223372036854775808 ≤ z2 ∧ z2 ≤ 9223372036854775807 ∧ -9223372036854775808 ≤ z3 ∧ z3 ≤ 9223372036854775807) ∧ cs = [.int .i64 z0, .int .i64 z1, .int .i64 z2, .int .i64 z3] := by
  obtain ⟨xs, n, _, _, hl, hlen, hg⟩ := DataW.trod_struct Tryz.underlying37 hf
  have hlen : xs.length = 4 := hlen
  have get : ∀ i, i < 4 → xs[i]? = some (xs.getD i (.nil, [])) := fun i hi => by
    rw [List.getD_eq_getElem?_getD, List.getElem?_eq_getElem (by omega)]
    rfl
  have one : ∀ (t : TypeId) (k : IntKind) (o : Nat) (u : DataW H × List MemPlace), Tryz.prog.underlying t = some (.int k) → DataW.trod enc Tryz.prog W 0 (fun _ => true) true n t ((cs.drop o).take 1) = some u → ∃ z, (cs.drop o).take 1 = [.int k z] ∧ (Lit.int k z).wf = true := fun t k o u ht hu => by
    obtain ⟨z, hz, _, hw⟩ := DataW.trod_int ht hu
    exact ⟨z, hz, hw⟩
  have q0 : DataW.trod enc Tryz.prog W 0 (fun _ => true) true n 3 ((cs.drop 0).take (Tryz.prog.cellsOf 3)) = some (xs.getD 0 (.nil, [])) := (hg 0 _ rfl).trans (get 0 (by decide))
  rw [show Tryz.prog.cellsOf 3 = 1 by kernel_rfl] at q0
  obtain ⟨z0, c0, w0⟩ := one _ _ 0 _ Tryz.underlying3 q0
  have q1 : DataW.trod enc Tryz.prog W 0 (fun _ => true) true n 3 ((cs.drop 1).take (Tryz.prog.cellsOf 3)) = some (xs.getD 1 (.nil, [])) := (hg 1 _ rfl).trans (get 1 (by decide))
  rw [show Tryz.prog.cellsOf 3 = 1 by kernel_rfl] at q1
  obtain ⟨z1, c1, w1⟩ := one _ _ 1 _ Tryz.underlying3 q1
  have q2 : DataW.trod enc Tryz.prog W 0 (fun _ => true) true n 3 ((cs.drop 2).take (Tryz.prog.cellsOf 3)) = some (xs.getD 2 (.nil, [])) := (hg 2 _ rfl).trans (get 2 (by decide))
  rw [show Tryz.prog.cellsOf 3 = 1 by kernel_rfl] at q2
  obtain ⟨z2, c2, w2⟩ := one _ _ 2 _ Tryz.underlying3 q2
  have q3 : DataW.trod enc Tryz.prog W 0 (fun _ => true) true n 3 ((cs.drop 3).take (Tryz.prog.cellsOf 3)) = some (xs.getD 3 (.nil, [])) := (hg 3 _ rfl).trans (get 3 (by decide))
  rw [show Tryz.prog.cellsOf 3 = 1 by kernel_rfl] at q3
  obtain ⟨z3, c3, w3⟩ := one _ _ 3 _ Tryz.underlying3 q3
  refine ⟨z0, z1, z2, z3, ⟨(i64_of_wf w0).1, (i64_of_wf w0).2, (i64_of_wf w1).1, (i64_of_wf w1).2, (i64_of_wf w2).1, (i64_of_wf w2).2, (i64_of_wf w3).1, (i64_of_wf w3).2⟩, ?_⟩
  match cs, hsz with
  | [v0, v1, v2, v3], _ =>
    simp only [List.drop_succ_cons, List.drop_zero, List.take_succ_cons, List.take_zero, List.cons.injEq, and_true, List.drop, List.take] at c0 c1 c2 c3
    simp [c0, c1, c2, c3]

set_option maxRecDepth 10000 in
theorem stamp_in {H : Type} {enc : TypeId × Value → H} {W : World} {r : Reach} {b0 : Nat} {v : Value} {d : DataW H} {p : List MemPlace}
    (hv : Value.okWide Tryz.prog W r b0 37 v) (h : DataW.Trod enc Tryz.prog W 0 (fun _ => true) true 37 v d p) :
    ∃ z0 z1 z2 z3 : Int, v = .agg #[.int .i64 z0, .int .i64 z1, .int .i64 z2, .int .i64 z3] ∧ (-9223372036854775808 ≤ z0 ∧ z0 ≤ 9223372036854775807 ∧ -9223372036854775808 ≤ z1 ∧ z1 ≤ 9223372036854775807 ∧ -9223372036854775808 ≤ z2 ∧ z2 ≤ 9223372036854775807 ∧ -9223372036854775808 ≤ z3 ∧ z3 ≤ 9223372036854775807) := by
  obtain ⟨cs, rfl, hsz⟩ := okWide_struct Tryz.underlying37 hv
  have hsz : cs.size = 4 := hsz.trans (by kernel_rfl)
  obtain ⟨fuel, hf⟩ := h
  obtain ⟨z0, z1, z2, z3, hb, e⟩ := stamp_of (cs := cs.toList) (by simpa using hsz) hf
  refine ⟨z0, z1, z2, z3, ?_, hb⟩
  have : cs = [.int .i64 z0, .int .i64 z1, .int .i64 z2, .int .i64 z3].toArray := by rw [← e]
  rw [this]

set_option maxRecDepth 10000 in
theorem act_of {H : Type} {enc : TypeId × Value → H} {W : World} {cs : List Value} {fuel : Nat} {u : DataW H × List MemPlace} (hsz : cs.length = 9)
    (hf : DataW.trod enc Tryz.prog W 0 (fun _ => true) true fuel 39 cs = some u) : ∃ z0 z1 z2 z3 z4 z5 z6 z7 z8 : Int, (-9223372036854775808 ≤ z0 ∧ z0 ≤ 9223372036854775807 ∧ -9223372036854775808 ≤ z1 ∧ z1 ≤ 9223372036854775807 ∧ -9223372036854775808 ≤ z2 ∧ z2 ≤ 9223372036854775807 ∧ -9223372036854775808 ≤ z3 ∧ z3 ≤ 9223372036854775807 ∧ -9223372036854775808 ≤ z4 ∧ z4 ≤ 9223372036854775807 ∧ -9223372036854775808 ≤ z5 ∧ z5 ≤ 9223372036854775807 ∧ -9223372036854775808 ≤ z6 ∧ z6 ≤ 9223372036854775807 ∧ -9223372036854775808 ≤ z7 ∧ z7 ≤ 9223372036854775807 ∧ 0 ≤ z8 ∧ z8 ≤ 18446744073709551615) ∧ cs = [.int .i64 z0, .int .i64 z1, .int .i64 z2, .int .i64 z3, .int .i64 z4, .int .i64 z5, .int .i64 z6, .int .i64 z7, .int .u64 z8] := by
  obtain ⟨xs, n, _, _, hl, hlen, hg⟩ := DataW.trod_struct Tryz.underlying39 hf
  have hlen : xs.length = 6 := hlen
  have get : ∀ i, i < 6 → xs[i]? = some (xs.getD i (.nil, [])) := fun i hi => by
    rw [List.getD_eq_getElem?_getD, List.getElem?_eq_getElem (by omega)]
    rfl
  have one : ∀ (t : TypeId) (k : IntKind) (o : Nat) (u : DataW H × List MemPlace), Tryz.prog.underlying t = some (.int k) → DataW.trod enc Tryz.prog W 0 (fun _ => true) true n t ((cs.drop o).take 1) = some u → ∃ z, (cs.drop o).take 1 = [.int k z] ∧ (Lit.int k z).wf = true := fun t k o u ht hu => by
    obtain ⟨z, hz, _, hw⟩ := DataW.trod_int ht hu
    exact ⟨z, hz, hw⟩
  have q0 : DataW.trod enc Tryz.prog W 0 (fun _ => true) true n 3 ((cs.drop 0).take (Tryz.prog.cellsOf 3)) = some (xs.getD 0 (.nil, [])) := (hg 0 _ rfl).trans (get 0 (by decide))
  rw [show Tryz.prog.cellsOf 3 = 1 by kernel_rfl] at q0
  obtain ⟨z0, c0, w0⟩ := one _ _ 0 _ Tryz.underlying3 q0
  have q1 : DataW.trod enc Tryz.prog W 0 (fun _ => true) true n 3 ((cs.drop 1).take (Tryz.prog.cellsOf 3)) = some (xs.getD 1 (.nil, [])) := (hg 1 _ rfl).trans (get 1 (by decide))
  rw [show Tryz.prog.cellsOf 3 = 1 by kernel_rfl] at q1
  obtain ⟨z1, c1, w1⟩ := one _ _ 1 _ Tryz.underlying3 q1
  have q2 : DataW.trod enc Tryz.prog W 0 (fun _ => true) true n 37 ((cs.drop 2).take (Tryz.prog.cellsOf 37)) = some (xs.getD 2 (.nil, [])) := (hg 2 _ rfl).trans (get 2 (by decide))
  rw [show Tryz.prog.cellsOf 37 = 4 by kernel_rfl] at q2
  obtain ⟨z2, z3, z4, z5, ⟨l2, h2, l3, h3, l4, h4, l5, h5⟩, c2⟩ := stamp_of (by rw [List.length_take, List.length_drop, hsz]; rfl) q2
  have q3 : DataW.trod enc Tryz.prog W 0 (fun _ => true) true n 3 ((cs.drop 6).take (Tryz.prog.cellsOf 3)) = some (xs.getD 3 (.nil, [])) := (hg 3 _ rfl).trans (get 3 (by decide))
  rw [show Tryz.prog.cellsOf 3 = 1 by kernel_rfl] at q3
  obtain ⟨z6, c3, w3⟩ := one _ _ 6 _ Tryz.underlying3 q3
  have q4 : DataW.trod enc Tryz.prog W 0 (fun _ => true) true n 3 ((cs.drop 7).take (Tryz.prog.cellsOf 3)) = some (xs.getD 4 (.nil, [])) := (hg 4 _ rfl).trans (get 4 (by decide))
  rw [show Tryz.prog.cellsOf 3 = 1 by kernel_rfl] at q4
  obtain ⟨z7, c4, w4⟩ := one _ _ 7 _ Tryz.underlying3 q4
  have q5 : DataW.trod enc Tryz.prog W 0 (fun _ => true) true n 32 ((cs.drop 8).take (Tryz.prog.cellsOf 32)) = some (xs.getD 5 (.nil, [])) := (hg 5 _ rfl).trans (get 5 (by decide))
  rw [show Tryz.prog.cellsOf 32 = 1 by kernel_rfl] at q5
  obtain ⟨z8, c5, w5⟩ := one _ _ 8 _ Tryz.underlying32 q5
  refine ⟨z0, z1, z2, z3, z4, z5, z6, z7, z8, ⟨(i64_of_wf w0).1, (i64_of_wf w0).2, (i64_of_wf w1).1, (i64_of_wf w1).2, l2, h2, l3, h3, l4, h4, l5, h5, (i64_of_wf w3).1, (i64_of_wf w3).2, (i64_of_wf w4).1, (i64_of_wf w4).2, (u64_of_wf w5).1, (u64_of_wf w5).2⟩, ?_⟩
  match cs, hsz with
  | [v0, v1, v2, v3, v4, v5, v6, v7, v8], _ =>
    simp only [List.drop_succ_cons, List.drop_zero, List.take_succ_cons, List.take_zero, List.cons.injEq, and_true, List.drop, List.take] at c0 c1 c2 c3 c4 c5
    simp [c0, c1, c2, c3, c4, c5]

set_option maxRecDepth 10000 in
theorem act_in {H : Type} {enc : TypeId × Value → H} {W : World} {r : Reach} {b0 : Nat} {v : Value} {d : DataW H} {p : List MemPlace}
    (hv : Value.okWide Tryz.prog W r b0 39 v) (h : DataW.Trod enc Tryz.prog W 0 (fun _ => true) true 39 v d p) :
    ∃ z0 z1 z2 z3 z4 z5 z6 z7 z8 : Int, v = .agg #[.int .i64 z0, .int .i64 z1, .int .i64 z2, .int .i64 z3, .int .i64 z4, .int .i64 z5, .int .i64 z6, .int .i64 z7, .int .u64 z8] ∧ (-9223372036854775808 ≤ z0 ∧ z0 ≤ 9223372036854775807 ∧ -9223372036854775808 ≤ z1 ∧ z1 ≤ 9223372036854775807 ∧ -9223372036854775808 ≤ z2 ∧ z2 ≤ 9223372036854775807 ∧ -9223372036854775808 ≤ z3 ∧ z3 ≤ 9223372036854775807 ∧ -9223372036854775808 ≤ z4 ∧ z4 ≤ 9223372036854775807 ∧ -9223372036854775808 ≤ z5 ∧ z5 ≤ 9223372036854775807 ∧ -9223372036854775808 ≤ z6 ∧ z6 ≤ 9223372036854775807 ∧ -9223372036854775808 ≤ z7 ∧ z7 ≤ 9223372036854775807 ∧ 0 ≤ z8 ∧ z8 ≤ 18446744073709551615) := by
  obtain ⟨cs, rfl, hsz⟩ := okWide_struct Tryz.underlying39 hv
  have hsz : cs.size = 9 := hsz.trans (by kernel_rfl)
  obtain ⟨fuel, hf⟩ := h
  obtain ⟨z0, z1, z2, z3, z4, z5, z6, z7, z8, hb, e⟩ := act_of (cs := cs.toList) (by simpa using hsz) hf
  refine ⟨z0, z1, z2, z3, z4, z5, z6, z7, z8, ?_, hb⟩
  have : cs = [.int .i64 z0, .int .i64 z1, .int .i64 z2, .int .i64 z3, .int .i64 z4, .int .i64 z5, .int .i64 z6, .int .i64 z7, .int .u64 z8].toArray := by rw [← e]
  rw [this]

set_option maxRecDepth 10000 in
theorem act_row {H : Type} {enc : TypeId × Value → H} {W : World} {A : Option Addr} {len cap : Nat} {d : DataW H} {p : List MemPlace} {fuel : Nat}
    (hf : DataW.trod enc Tryz.prog W 0 (fun _ => true) true fuel 26 (Value.slice A len cap).cells.toList = some (d, p)) : Ho.Acts W A len ∧ len ≤ maxLen := by
  have e46 : Tryz.prog.cellsOf 39 = 9 := by kernel_rfl
  rcases DataW.trod_slice Tryz.underlying26 hf with ⟨hcs, _⟩ | ⟨a, l, c, elems, rest, n, _, hcs, _, _, hle, hcap, hel, hi, _⟩
  · simp [Value.cells] at hcs
    obtain ⟨rfl, rfl, rfl⟩ := hcs
    exact ⟨fun h => absurd h (by omega), by simp [maxLen]⟩
  · simp [Value.cells] at hcs
    obtain ⟨rfl, rfl, rfl⟩ := hcs
    refine ⟨fun hn => ?_, Nat.le_trans hle hcap⟩
    have key : ∀ i, i < len → ∃ (cs : List Value) (z0 z1 z2 z3 z4 z5 z6 z7 z8 : Int), (-9223372036854775808 ≤ z0 ∧ z0 ≤ 9223372036854775807 ∧ -9223372036854775808 ≤ z1 ∧ z1 ≤ 9223372036854775807 ∧ -9223372036854775808 ≤ z2 ∧ z2 ≤ 9223372036854775807 ∧ -9223372036854775808 ≤ z3 ∧ z3 ≤ 9223372036854775807 ∧ -9223372036854775808 ≤ z4 ∧ z4 ≤ 9223372036854775807 ∧ -9223372036854775808 ≤ z5 ∧ z5 ≤ 9223372036854775807 ∧ -9223372036854775808 ≤ z6 ∧ z6 ≤ 9223372036854775807 ∧ -9223372036854775808 ≤ z7 ∧ z7 ≤ 9223372036854775807 ∧ 0 ≤ z8 ∧ z8 ≤ 18446744073709551615) ∧ cs = [.int .i64 z0, .int .i64 z1, .int .i64 z2, .int .i64 z3, .int .i64 z4, .int .i64 z5, .int .i64 z6, .int .i64 z7, .int .u64 z8] ∧ ∀ j v, cs[j]? = some v → W.cell? ((a.add (i * 9)).add j) = some v := fun i hil => by
      have h := hi i hil
      rw [e46, List.getElem?_eq_getElem (by omega)] at h
      obtain ⟨cs', hc, ht⟩ := Option.bind_eq_some_iff.1 h
      obtain ⟨_, hcl, hat⟩ := World.cells?_some hc
      obtain ⟨z0, z1, z2, z3, z4, z5, z6, z7, z8, hb, e⟩ := act_of (by simpa using hcl) ht
      refine ⟨cs', z0, z1, z2, z3, z4, z5, z6, z7, z8, hb, e, fun j v hv => ?_⟩
      have hj : j < 9 := by
        have := (List.getElem?_eq_some_iff.1 hv).1
        omega
      rw [hat j hj]
      exact hv
    obtain ⟨b, o, s⟩ := a
    obtain ⟨cs0, x0, x1, x2, x3, x4, x5, x6, x7, x8, hb0, e0, h0⟩ := key 0 hn
    have hc0 := h0 0 (.int .i64 x0) (by rw [e0]; rfl)
    have hs : s = none := by simpa [Addr.add] using World.cell?_spot hc0
    subst hs
    refine ⟨b, o, rfl, World.block_lt_of_cell? W ⟨b, o, none⟩ (by simpa [Addr.add] using hc0), fun i hil => ?_⟩
    obtain ⟨cs, z0, z1, z2, z3, z4, z5, z6, z7, z8, hb, e, hc⟩ := key i hil
    refine ⟨z0, z1, z2, z3, z4, z5, z6, z7, z8, (by obtain ⟨g0, g1, g2, g3, g4, g5, g6, g7, g8, g9, g10, g11, g12, g13, g14, g15, g16, g17⟩ := hb; exact ⟨g0, g1, g2, g3, g4, g5, g6, g7, g8, g9, g10, g11, g12, g13, g14, g15, g16, g17⟩), fun j v hv => ?_⟩
    have h1 := hc j v (by rw [e]; exact hv)
    rw [Go.Deep.add_add] at h1
    have h2 : (⟨b, o, none⟩ : Addr).add (i * 9 + j) = ⟨b, o + i * 9 + j, none⟩ := by
      unfold Addr.add
      by_cases e : i * 9 + j = 0
      · rw [if_pos e]
        first | (simp; done) | (simp; omega)
      · rw [if_neg e]
        first | rfl | (rw [Nat.add_assoc]; done) | (simp; done) | (simp; omega) | (simp [Nat.add_assoc]; done)
    rwa [h2] at h1

end Go.Proofs.YtneajcoiemkfbaaGreat
end
