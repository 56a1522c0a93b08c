/-
  The memory of BankMoves: four variables that hold banks, and what writing does to them. No walk.
-/
import Derived.Test.YtgdaojbflokmoaaGBm3
import Derived.Test.YtgdaojbflokmoaaGBkN
namespace Go.Proofs.Ytgdaojbflokmoaa
open Go.RowKit Go.Shelf
set_option linter.unusedVariables false
namespace Bk
open Pm

/-- The block of a bank's own row. -/
def own (Y : List Value) : Option Nat := (Y.getD 0 undef).ownBlock
theorem nb_row {w W : World} {Y : List Value} {zs ps : List Int} (h : NB w W Y zs ps) : ∃ v, Y = bkC v ps ∧ own Y = v.ownBlock ∧ Fresh w W v zs := by
  obtain ⟨⟨v, e, hf⟩, _⟩ := h
  injection e with e
  obtain rfl : Y = bkC v ps := by simpa using e
  exact ⟨v, rfl, rfl, hf⟩
theorem NB.kept {S : Nat → Prop} {w W V : World} {Y : List Value} {zs ps : List Int} (h : NB w W Y zs ps) (k : Kk.Kep S W V) (hS : ∀ i, S i → w.heap.size ≤ i) (ho : ∀ g, own Y = some g → ¬ S g) : NB w V Y zs ps := by
  obtain ⟨v, rfl, e, hf⟩ := nb_row h
  rw [e] at ho
  exact FB.same ⟨v, rfl, Kk.Kep.owns k (fun g hg => ho g hg) hf.1, Kk.Kep.bel hf.2 k hS⟩ h.2.good
theorem NB.own_lt {w W : World} {Y : List Value} {zs ps : List Int} (h : NB w W Y zs ps) : ∀ g, own Y = some g → w.heap.size ≤ g ∧ g < W.heap.size := by
  obtain ⟨v, rfl, e, hf⟩ := nb_row h
  rw [e]
  exact fun g hg => hf.1.lt g hg
theorem NB.not_bank {w W : World} {Y : List Value} {zs ps : List Int} (h : NB w W Y zs ps) {p : Nat} {C : Array Value} (hb : Kk.Blk W p C 26) : ∀ g, own Y = some g → ¬ g = p := by
  obtain ⟨v, rfl, e, hf⟩ := nb_row h
  rw [e]
  intro g hg e2
  subst e2
  exact hb.not_row (by decide) hf.1 hg
/-- A bank that stays readable whatever is written into memory newer than w; or that lies in it. -/
def Rdb (w W : World) (Y : List Value) (zs ps : List Int) : Prop := (Kk.Bel w W ∧ ∀ V, Kk.Bel w V → BV V Y zs ps) ∨ NB w W Y zs ps
theorem Rdb.bv {w W : World} {Y : List Value} {zs ps : List Int} (h : Rdb w W Y zs ps) : BV W Y zs ps := by
  rcases h with ⟨h, k⟩ | h
  · exact k W h
  · exact h.2
theorem Rdb.up {w W V : World} {Y : List Value} {zs ps : List Int} (h : Rdb w W Y zs ps) (hb : Kk.Bel W V) : Rdb w V Y zs ps := by
  rcases h with ⟨h, k⟩ | h
  · exact .inl ⟨h.trans hb, k⟩
  · exact .inr (h.then_ hb)
theorem Rdb.kept {w W : World} {Y : List Value} {zs ps : List Int} (h : Rdb w W Y zs ps) {p : Nat} {C : Array Value} (hb : Kk.Blk W p C 26) (hp : w.heap.size ≤ p) (X : List Value) : Rdb w (W.setCells p 0 X) Y zs ps := by
  have hk := kep_setCells p X 0 W
  have hS : ∀ i, i = p → w.heap.size ≤ i := fun i e => by rw [e]; exact hp
  rcases h with ⟨h, k⟩ | h
  · exact .inl ⟨Kk.Kep.bel h hk hS, k⟩
  · exact .inr (h.kept hk hS (h.not_bank hb))

/-- Four variables: b, in, x, y. -/
structure Bs (w W : World) (pb pi px py : Nat) (Yb Yi Yx Yy : List Value) : Prop where
  bel : Kk.Bel w W
  bb : Kk.Blk W pb Yb.toArray 26
  bi : Kk.Blk W pi Yi.toArray 26
  bx : Kk.Blk W px Yx.toArray 26
  by_ : Kk.Blk W py Yy.toArray 26
  lb : Yb.length = 5
  li : Yi.length = 5
  lx : Yx.length = 5
  ly : Yy.length = 5
  o0 : w.heap.size ≤ pb
  o1 : pb < pi
  o2 : pi < px
  o3 : px < py
section
variable {w W V : World} {pb pi px py : Nat} {Yb Yi Yx Yy : List Value}
theorem Bs.up (h : Bs w W pb pi px py Yb Yi Yx Yy) (k : Kk.Bel W V) : Bs w V pb pi px py Yb Yi Yx Yy :=
  ⟨h.bel.trans k, h.bb.bel k, h.bi.bel k, h.bx.bel k, h.by_.bel k, h.lb, h.li, h.lx, h.ly, h.o0, h.o1, h.o2, h.o3⟩
theorem Bs.kep {S : Nat → Prop} (h : Bs w W pb pi px py Yb Yi Yx Yy) (k : Kk.Kep S W V) (hS : ∀ i, S i → w.heap.size ≤ i) (n1 : ¬ S pb) (n2 : ¬ S pi) (n3 : ¬ S px) (n4 : ¬ S py) : Bs w V pb pi px py Yb Yi Yx Yy :=
  ⟨Kk.Kep.bel h.bel k hS, h.bb.kep k n1, h.bi.kep k n2, h.bx.kep k n3, h.by_.kep k n4, h.lb, h.li, h.lx, h.ly, h.o0, h.o1, h.o2, h.o3⟩
theorem Bs.setx (h : Bs w W pb pi px py Yb Yi Yx Yy) (X : List Value) (hX : X.length = 5) : Bs w (W.setCells px 0 X) pb pi px py Yb Yi X Yy := by
  have k := kep_setCells px X 0 W
  have o0 := h.o0; have o1 := h.o1; have o2 := h.o2; have o3 := h.o3
  exact ⟨bel_setCells h.bel (by omega) 0 X, h.bb.kep k (by omega), h.bi.kep k (by omega), blk5 h.bx h.lx X hX, h.by_.kep k (by omega), h.lb, h.li, hX, h.ly, o0, o1, o2, o3⟩
theorem Bs.sety (h : Bs w W pb pi px py Yb Yi Yx Yy) (X : List Value) (hX : X.length = 5) : Bs w (W.setCells py 0 X) pb pi px py Yb Yi Yx X := by
  have k := kep_setCells py X 0 W
  have o0 := h.o0; have o1 := h.o1; have o2 := h.o2; have o3 := h.o3
  exact ⟨bel_setCells h.bel (by omega) 0 X, h.bb.kep k (by omega), h.bi.kep k (by omega), h.bx.kep k (by omega), blk5 h.by_ h.ly X hX, h.lb, h.li, h.lx, hX, o0, o1, o2, o3⟩
theorem Bs.seti (h : Bs w W pb pi px py Yb Yi Yx Yy) (X : List Value) (hX : X.length = 5) : Bs w (W.setCells pi 0 X) pb pi px py Yb X Yx Yy := by
  have k := kep_setCells pi X 0 W
  have o0 := h.o0; have o1 := h.o1; have o2 := h.o2; have o3 := h.o3
  exact ⟨bel_setCells h.bel (by omega) 0 X, h.bb.kep k (by omega), blk5 h.bi h.li X hX, h.bx.kep k (by omega), h.by_.kep k (by omega), h.lb, hX, h.lx, h.ly, o0, o1, o2, o3⟩
theorem Bs.setb (h : Bs w W pb pi px py Yb Yi Yx Yy) (X : List Value) (hX : X.length = 5) : Bs w (W.setCells pb 0 X) pb pi px py X Yi Yx Yy := by
  have k := kep_setCells pb X 0 W
  have o0 := h.o0; have o1 := h.o1; have o2 := h.o2; have o3 := h.o3
  exact ⟨bel_setCells h.bel (by omega) 0 X, blk5 h.bb h.lb X hX, h.bi.kep k (by omega), h.bx.kep k (by omega), h.by_.kep k (by omega), hX, h.li, h.lx, h.ly, o0, o1, o2, o3⟩
end
theorem NB.setbank {w W : World} {Y : List Value} {zs ps : List Int} (h : NB w W Y zs ps) {p : Nat} {C : Array Value} (hb : Kk.Blk W p C 26) (hp : w.heap.size ≤ p) (X : List Value) : NB w (W.setCells p 0 X) Y zs ps :=
  h.kept (kep_setCells p X 0 W) (fun i e => by rw [e]; exact hp) (h.not_bank hb)
/-- A variable and an act, as they lie in memory. -/
def Sq (p : Nat) (Y : List Value) (ab o : Nat) (cs : List Value) (V : World) : Prop := V.rangeAt p 0 Y ∧ V.rangeAt ab o cs
/-- What stands at the head of each round. -/
def Hdr (w W : World) (pb pi px py : Nat) (Yb Yi Yx Yy : List Value) (zs ps : List Int) : Prop := Bs w W pb pi px py Yb Yi Yx Yy ∧ NB w W Yi zs ps ∧ Rdb w W Yb zs ps
end Bk
end Go.Proofs.Ytgdaojbflokmoaa
