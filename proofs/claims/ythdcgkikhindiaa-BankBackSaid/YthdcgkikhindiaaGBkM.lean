/-
  A move and the move back are nothing; two moves come to the same in any order: the mathematics. No walk.
-/
import Derived.Test.YthdcgkikhindiaaGBkN
namespace Go.Proofs.Ythdcgkikhindiaa
open Go.RowKit Go.Shelf
set_option linter.unusedVariables false
namespace Bk
open Pm

theorem bank_ext {zs ps zs' ps' : List Int} (h1 : zs'.length = zs.length) (h2 : ps'.length = ps.length) (h : ∀ (q : Bool) (k : Nat), bal zs' ps' q k = bal zs ps q k) : zs' = zs ∧ ps' = ps :=
  ⟨same_of_len h1 (fun i _ => h false i), same_of_len h2 (fun i _ => h true i)⟩
theorem moved_chk {zs ps zs' ps' : List Int} {pf pt : Bool} {i j : Nat} {m : Int} (hm : Moved zs ps zs' ps' pf pt i j m) (hc : chk zs ps = 0) : chk zs' ps' = 0 := by
  obtain ⟨c1, c2, c3⟩ := chk_ok hc
  exact chk_of (by rw [hm.zl]; exact c1) (by rw [hm.zl]; exact c2) (by rw [hm.sum]; exact c3)
theorem back_x {zs ps : List Int} {pf pt : Bool} {f t m least least2 : Int} (hg : Good zs ps) (m0 : 0 ≤ m) (h : xE zs ps pf pt f t m least = 0) (hb : ¬ (pt = true ∧ t = 2)) (hl : ¬ m < least2) :
    xE (xZ zs ps pf pt f t m least) (xP zs ps pf pt f t m least) pt pf t f m least2 = 0 ∧ xZ (xZ zs ps pf pt f t m least) (xP zs ps pf pt f t m least) pt pf t f m least2 = zs ∧ xP (xZ zs ps pf pt f t m least) (xP zs ps pf pt f t m least) pt pf t f m least2 = ps := by
  obtain ⟨hc, _, i, j, rfl, rfl, hm⟩ := moved hg m0 h
  obtain ⟨Z, hZ⟩ : ∃ Z, xZ zs ps pf pt i j m least = Z := ⟨_, rfl⟩
  obtain ⟨P, hP⟩ : ∃ P, xP zs ps pf pt i j m least = P := ⟨_, rfl⟩
  rw [hZ, hP] at hm ⊢
  have hpl : P.length = ps.length := by rw [hm.good.2.2.1, hg.2.2.1]
  have hcZ := moved_chk hm hc
  have aj := at_len hm.zl hpl hm.to_
  have ai := at_len hm.zl hpl hm.from_
  have hb2 := hm.at_ pt j
  rw [if_pos ⟨rfl, rfl⟩, if_neg (fun e => hm.ne ⟨e.1, e.2⟩)] at hb2
  have b0 := (bal_words hg.1 hg.2.1 pt j).1
  have hE : xE Z P pt pf j i m least2 = 0 := x_of hcZ (at_pl hm.good.2.2.1 aj) (at_pl hm.good.2.2.1 ai) (by
    rintro (e | e | e)
    · exact hm.ne ⟨e.1.symm, by omega⟩
    · exact hb e
    · exact hl e) (by omega)
  refine ⟨hE, ?_⟩
  obtain ⟨_, _, j2, i2, ej, ei, hm2⟩ := moved hm.good m0 hE
  obtain rfl : j = j2 := by omega
  obtain rfl : i = i2 := by omega
  refine bank_ext (by rw [hm2.zl, hm.zl]) (by rw [hm2.good.2.2.1, hg.2.2.1]) fun q k => ?_
  rw [hm2.at_ q k, hm.at_ q k]
  omega
def pfA (a : Int) : Bool := decide (a = 1 ∨ a = 3 ∨ a = 4)
def ptA (a : Int) : Bool := decide (a = 2 ∨ a = 3 ∨ a = 4)
def toA (a t : Int) : Int := if a = 4 then 2 else t
theorem d_moved {zs ps : List Int} {a f t m : Int} (hg : Good zs ps) (hn : Near a m) (h : dE zs ps a f t m = 0) :
    ∃ i j : Nat, f = i ∧ toA a t = j ∧ Moved zs ps (dZ zs ps a f t m) (dP zs ps a f t m) (pfA a) (ptA a) i j m := by
  obtain ⟨a0, a4, m0, m1⟩ := hn
  have ha : a = 0 ∨ a = 1 ∨ a = 2 ∨ a = 3 ∨ a = 4 := by omega
  rcases ha with rfl | rfl | rfl | rfl | rfl
  all_goals
    obtain ⟨_, _, i, j, e1, e2, hm⟩ := moved hg m0 h
    exact ⟨i, j, e1, e2, hm⟩
/-- Two moves, each behind the other one. -/
theorem commute {zs ps : List Int} {a f t m a' f' t' m' : Int} (hg : Good zs ps) (hn : Near a m) (hn' : Near a' m') (h1 : dE zs ps a f t m = 0)
    (h2 : dE (dZ zs ps a f t m) (dP zs ps a f t m) a' f' t' m' = 0) (h3 : dE zs ps a' f' t' m' = 0) (h4 : dE (dZ zs ps a' f' t' m') (dP zs ps a' f' t' m') a f t m = 0) :
    dZ (dZ zs ps a' f' t' m') (dP zs ps a' f' t' m') a f t m = dZ (dZ zs ps a f t m) (dP zs ps a f t m) a' f' t' m' ∧ dP (dZ zs ps a' f' t' m') (dP zs ps a' f' t' m') a f t m = dP (dZ zs ps a f t m) (dP zs ps a f t m) a' f' t' m' := by
  obtain ⟨i1, j1, e1, d1, m1⟩ := d_moved hg hn h1
  obtain ⟨i2, j2, e2, d2, m2⟩ := d_moved m1.good hn' h2
  obtain ⟨i3, j3, e3, d3, m3⟩ := d_moved hg hn' h3
  obtain ⟨i4, j4, e4, d4, m4⟩ := d_moved m3.good hn h4
  obtain rfl : i4 = i1 := by omega
  obtain rfl : j4 = j1 := by omega
  obtain rfl : i3 = i2 := by omega
  obtain rfl : j3 = j2 := by omega
  refine bank_ext (by rw [m4.zl, m3.zl, m2.zl, m1.zl]) (by rw [m4.good.2.2.1, m2.good.2.2.1]) fun q k => ?_
  rw [m4.at_ q k, m3.at_ q k, m2.at_ q k, m1.at_ q k]
  omega
def bkA (a : Int) : Int := if a = 0 then 0 else if a = 1 then 2 else if a = 2 then 1 else if a = 3 then 3 else a
def bkF (a f t : Int) : Int := if a = 0 ∨ a = 1 ∨ a = 2 ∨ a = 3 then t else f
def bkT (a f t : Int) : Int := if a = 0 ∨ a = 1 ∨ a = 2 ∨ a = 3 then f else t
def bkIs (a t : Int) : Bool := decide (a = 0 ∨ a = 1 ∨ ((a = 2 ∨ a = 3) ∧ t ≠ 2))
/-- A move and the move back are nothing. -/
theorem back_d {zs ps : List Int} {a f t m : Int} (hg : Good zs ps) (hn : Near a m) (h : dE zs ps a f t m = 0) (hi : bkIs a t = true) :
    dE (dZ zs ps a f t m) (dP zs ps a f t m) (bkA a) (bkF a f t) (bkT a f t) m = 0 ∧ dZ (dZ zs ps a f t m) (dP zs ps a f t m) (bkA a) (bkF a f t) (bkT a f t) m = zs ∧ dP (dZ zs ps a f t m) (dP zs ps a f t m) (bkA a) (bkF a f t) (bkT a f t) m = ps := by
  obtain ⟨a0, a4, m0, m1⟩ := hn
  have hi := of_decide_eq_true hi
  have ha : a = 0 ∨ a = 1 ∨ a = 2 ∨ a = 3 := by omega
  rcases ha with rfl | rfl | rfl | rfl
  · exact back_x hg m0 h (by simp) (moved hg m0 h).2.1
  · exact back_x hg m0 h (by simp) (by omega)
  · exact back_x hg m0 h (by intro e; omega) (by omega)
  · exact back_x hg m0 h (by intro e; omega) (by omega)
end Bk
end Go.Proofs.Ythdcgkikhindiaa
