/-
  Texts of this claim, put together: KMem, PMem, DivArith, DivWalk, Div, Bits, Fx, KEqI. What each one says, and under which conditions, stands ahead of it.
-/
import Derived.StillTailTactics
import Derived.BigQuiet
import Derived.Deep.QuietTactic
import Derived.IntWalk
import Derived.BigRegion
import Derived.Shelf.RegionOpen
import Derived.Shelf.Abstract
import Derived.WalkKit
import Derived.RangeFuncNested
import Derived.RangeFuncBound
import Derived.RangeFuncCalls
import Derived.RangeFuncLeaves
import Derived.RangeFuncBox
import Derived.OwnWalkIn
import Derived.TacticsInMore
import Derived.LoopNIn
import Derived.LoopIn
import Derived.Maps.AppendAt
import Derived.Laws.BytesArg
import Derived.Laws.AppendOwnNone
import Derived.WalkSpells
import Derived.LaidEql
import Derived.Deep.MidRow
import Derived.Deep.RegionHeld3
import Derived.Deep.DeepCutAuto
import Derived.Deep.RegionWith
import Derived.Lib.Hide
import Derived.Lib.BitFns
import Derived.Laws.Bits64
import Derived.Laws.Bits64b
import Derived.Below
import Derived.RowKit3
import Derived.Outline
import Derived.Shelf.Spec.BitsCarry
import Derived.ChangeKeysEq
import Derived.Test.YtgdaojbflokmoaaChecked
import Derived.Test.YtgdaojbflokmoaaGShelf
import Derived.Test.YtgdaojbflokmoaaRows

section
/-
  What a walk says of memory: what was there is as it was; a slice reads as numbers; bytes of one's own; a block, and a range of it. No condition.
-/
namespace Go.Proofs.Ytgdaojbflokmoaa
open Go.RowKit Go.Shelf
set_option linter.unusedVariables false
attribute [local go_sem] Oper.semAt_some
theorem Try.info_u8 : (Try.prog.info? 5).map (fun i => (i.zero, i.size, i.bytes)) = some (some (.int .u8 0), 1, 1) := by kernel_rfl
namespace Kk
/-- What was there is as it was. -/
def Bel (a w : World) : Prop := Below a.heap.size a w
theorem Bel.refl (a : World) : Bel a a := Below.refl _ _
theorem Bel.alloc {a w : World} (h : Bel a w) (o : Obj) : Bel a (w.alloc o) := Below.alloc h (Below.size h) o
theorem Bel.drew {a w : World} (h : Bel a w) : Bel a w.drew := Below.drew h
theorem Bel.drewN {a w : World} (h : Bel a w) (n : Nat) : Bel a (w.drewN n) := ⟨h.os, h.tape, h.output, h.size, h.block⟩
theorem Bel.trans {a b c : World} (h : Bel a b) (k : Bel b c) : Bel a c := Below.trans h (Below.mono k (Below.size h))
theorem Bel.set {a w : World} (h : Bel a w) {p : Addr} (hp : a.heap.size ≤ p.block) (u : Value) : Bel a (w.setCell p u) := Below.setCell h hp u
theorem Bel.facts {W w1 : World} (hb : Bel W w1) : (∀ b o, b < W.heap.size → w1.cell? ⟨b, o, none⟩ = W.cell? ⟨b, o, none⟩) ∧ (∀ b o, b < W.heap.size → w1.frozen? ⟨b, o, none⟩ = W.frozen? ⟨b, o, none⟩) :=
  ⟨fun b o h => Below.cell (p := ⟨b, o, none⟩) hb h, fun b o h => Below.frozen (p := ⟨b, o, none⟩) hb h⟩
theorem Bel.grown {a w w' : World} {row : Option Nat} (h : Bel a w) (hg : w.grownBy w' row) (hr : ∀ k, row = some k → a.heap.size ≤ k) : Bel a w' := Below.grown h hg (Below.size h) hr

/-- A slice that reads as the numbers zs (its elements). -/
def Ints (k : IntKind) (w : World) (A : Option Addr) (n : Nat) (zs : List Int) : Prop :=
  zs.length = n ∧ (0 < n → ∃ b o, A = some ⟨b, o, none⟩ ∧ b < w.heap.size ∧ ∀ i, i < n → w.cell? ⟨b, o + i, none⟩ = some (.int k (zs.getD i 0)))
theorem Ints.bel {k : IntKind} {w w' : World} {A : Option Addr} {n : Nat} {zs : List Int} (h : Ints k w A n zs) (hb : Bel w w') : Ints k w' A n zs :=
  ⟨h.1, fun hn => by
    obtain ⟨b, o, e, hlt, hc⟩ := h.2 hn
    exact ⟨b, o, e, Nat.lt_of_lt_of_le hlt (Below.size hb), fun i hi => (Below.cell (p := ⟨b, o + i, none⟩) hb hlt).trans (hc i hi)⟩⟩
theorem Ints.nil_ {k : IntKind} {w : World} {A : Option Addr} : Ints k w A 0 [] := ⟨rfl, fun h => absurd h (by omega)⟩
theorem Ints.cell {k : IntKind} {w : World} {A : Option Addr} {n : Nat} {zs : List Int} (h : Ints k w A n zs) {i : Nat} (hi : i < n) : ∃ b o, A = some ⟨b, o, none⟩ ∧ b < w.heap.size ∧ w.cell? ⟨b, o + i, none⟩ = some (.int k (zs.getD i 0)) := by
  obtain ⟨b, o, e, hlt, hc⟩ := h.2 (by omega)
  exact ⟨b, o, e, hlt, hc i hi⟩

theorem getD_eq (zs : List Int) (i : Nat) (h : i < zs.length) : zs.getD i 0 = zs[i] := by
  rw [List.getD_eq_getElem?_getD, List.getElem?_eq_getElem h]; rfl
theorem getD_part (zs : List Int) (k m i : Nat) (h : i < m) : ((zs.drop k).take m).getD i 0 = zs.getD (k + i) 0 := by
  simp [List.getD_eq_getElem?_getD, h]

/-- A part of a slice. -/
theorem Ints.part {kd : IntKind} {w : World} {A : Option Addr} {n c : Nat} {zs : List Int} (h : Ints kd w A n zs) {k m : Nat} (hk : k + m ≤ n) (hc : n ≤ c) : Ints kd w (if c = k then A else A.map (·.add (k * 1))) m ((zs.drop k).take m) := by
  refine ⟨by have := h.1; simp; omega, fun hm => ?_⟩
  obtain ⟨b, o, rfl, hlt, hcell⟩ := h.2 (by omega)
  rw [if_neg (by omega)]
  refine ⟨b, o + k, ?_, hlt, fun i hi => ?_⟩
  · rw [Nat.mul_one]
    simp only [Option.map_some, Addr.add]
    by_cases h0 : k = 0
    · simp [h0]
    · simp [h0]
  · rw [getD_part _ _ _ _ hi, Nat.add_assoc]
    exact hcell (k + i) (by omega)

/-- A row of the call's own reads as numbers. -/
theorem ints_of_own {kd : IntKind} {w : World} {base : Nat} {e : TypeId} {v : Value} {n : Nat} {zs : List Int} (h : w.ownsRow base e 1 v n (zs.map (Value.int kd))) :
    ∃ A c, v = .slice A n c ∧ Ints kd w A n zs ∧ n ≤ c ∧ c ≤ maxLen := by
  have hl : zs.length = n := by simpa using h.1
  rcases h.2 with ⟨rfl, rfl⟩ | ⟨g, cap, cur, rfl, hb, hg, hnc, hm, r⟩
  · have : zs = [] := List.length_eq_zero_iff.1 hl
    subst this
    exact ⟨none, 0, rfl, Ints.nil_, Nat.le_refl _, Nat.zero_le _⟩
  · refine ⟨_, _, rfl, ⟨hl, fun hn => ⟨g, 0, rfl, ?_, fun i hi => ?_⟩⟩, hnc, hm⟩
    · exact (Array.getElem?_eq_some_iff.1 hg).1
    · have := h.cellAt i (by omega)
      rw [Nat.zero_add, this, List.getElem?_map, List.getElem?_eq_getElem (by omega), List.getD_eq_getElem?_getD, List.getElem?_eq_getElem (by omega)]
      rfl

theorem Bel.grownBy {w w' : World} (h : Bel w w') : w.grownBy w' none := ⟨Below.os h, Below.tape h, Below.output h, Below.size h, fun k hk _ => Below.block h k hk⟩
theorem owns_bel {w w' : World} {base : Nat} {e : TypeId} {size : Nat} {v : Value} {n : Nat} {xs : List Value} (h : w.ownsRow base e size v n xs) (hb : Bel w w') : w'.ownsRow base e size v n xs := by
  refine h.kept (Bel.grownBy hb) ?_
  cases v.ownBlock with
  | none => exact .inl rfl
  | some g => exact .inr (by simp)
theorem owns_mono {w : World} {base base' : Nat} {e : TypeId} {size : Nat} {v : Value} {n : Nat} {xs : List Value} (h : w.ownsRow base e size v n xs) (hb : base' ≤ base) : w.ownsRow base' e size v n xs := by
  refine ⟨h.1, h.2.imp id fun ⟨g, cap, cur, h1, h2, r⟩ => ⟨g, cap, cur, h1, Nat.le_trans hb h2, r⟩⟩

/-- New bytes. -/
def Fresh (w w' : World) (v : Value) (zs : List Int) : Prop := w'.ownsRow w.heap.size 5 1 v zs.length (zs.map (Value.int .u8)) ∧ Bel w w'

theorem one_ok (z : Int) {k : IntKind} : ∀ u ∈ [Value.int k z], u.oneCell' = true := by
  intro u hu
  simp at hu
  subst hu
  rfl
theorem ints_ok (zs : List Int) {k : IntKind} : ∀ u ∈ zs.map (Value.int k), u.oneCell' = true := by
  intro u hu
  obtain ⟨z, _, rfl⟩ := List.mem_map.1 hu
  rfl
/-- The cells of a slice that reads as numbers, as an append takes them. -/
theorem Ints.news {k : IntKind} {w : World} {A : Addr} {n : Nat} {zs : List Int} (h : Ints k w (some A) n zs) : ∀ j u, (zs.map (Value.int k))[j]? = some u → w.cell? (A.add j) = some u := by
  intro j u hj
  have hl := h.1
  have hjn : j < n := by
    rcases Nat.lt_or_ge j n with h' | h'
    · exact h'
    · rw [List.getElem?_eq_none (by simp; omega)] at hj; cases hj
  obtain ⟨b, o, e, _, hc⟩ := h.cell hjn
  injection e with e
  subst e
  rw [List.getElem?_map, List.getElem?_eq_getElem (by omega)] at hj
  rw [getD_eq _ _ (by omega)] at hc
  simp at hj
  subst hj
  rw [← hc]
  unfold Addr.add
  by_cases h0 : j = 0
  · simp [h0]
  · simp [h0]

/-- A slice of bytes: nil has no room. -/
structure Sl (w : World) (A : Option Addr) (n c : Nat) (zs : List Int) : Prop where
  ints : Ints .u8 w A n zs
  cap : n ≤ c
  nil : A = none → c = 0
theorem Sl.bel {w w' : World} {A : Option Addr} {n c : Nat} {zs : List Int} (h : Sl w A n c zs) (hb : Bel w w') : Sl w' A n c zs := ⟨h.ints.bel hb, h.cap, h.nil⟩
theorem Sl.len {w : World} {A : Option Addr} {n c : Nat} {zs : List Int} (h : Sl w A n c zs) : zs.length = n := h.ints.1
theorem sl_of_own {w : World} {base : Nat} {e : TypeId} {v : Value} {n : Nat} {zs : List Int} (h : w.ownsRow base e 1 v n (zs.map (Value.int .u8))) : ∃ A c, v = .slice A n c ∧ Sl w A n c zs := by
  obtain ⟨A, c, e, hi, hc, _⟩ := ints_of_own h
  refine ⟨A, c, e, hi, hc, ?_⟩
  rintro rfl
  rcases h.2 with ⟨h1, _⟩ | ⟨g, cap, cur, h1, _⟩
  · rw [h1] at e; injection e with _ _ e; exact e.symm
  · rw [h1] at e; injection e with e; cases e
theorem Fresh.sl {w w' : World} {v : Value} {zs : List Int} (h : Fresh w w' v zs) : ∃ A c, v = .slice A zs.length c ∧ Sl w' A zs.length c zs := sl_of_own h.1

theorem own_empty (w : World) : (w.alloc (.cells #[] 5)).ownsRow w.heap.size 5 1 (.slice (some ⟨w.heap.size, 0, none⟩) 0 0) 0 [] :=
  World.ownsRow_lit w #[] 0 (Nat.le_refl _) (Nat.zero_le _) rfl


/-- What the call may have turned: the blocks S alone. -/
structure Kep (S : Nat → Prop) (a w : World) : Prop where
  os : w.os = a.os
  tape : w.tape = a.tape
  output : w.output = a.output
  size : a.heap.size ≤ w.heap.size
  block : ∀ k, k < a.heap.size → ¬ S k → w.heap[k]? = a.heap[k]?
theorem Kep.refl (S : Nat → Prop) (a : World) : Kep S a a := ⟨rfl, rfl, rfl, Nat.le_refl _, fun _ _ _ => rfl⟩
theorem Kep.of_bel {S : Nat → Prop} {a w : World} (h : Bel a w) : Kep S a w := ⟨Below.os h, Below.tape h, Below.output h, Below.size h, fun k hk _ => Below.block h k hk⟩
theorem Kep.trans {S : Nat → Prop} {a b c : World} (h : Kep S a b) (k : Kep S b c) : Kep S a c :=
  ⟨k.os.trans h.os, k.tape.trans h.tape, k.output.trans h.output, Nat.le_trans h.size k.size, fun i hi hs => (k.block i (Nat.lt_of_lt_of_le hi h.size) hs).trans (h.block i hi hs)⟩
theorem Kep.mono {S T : Nat → Prop} {a b : World} (h : Kep S a b) (hst : ∀ k, k < a.heap.size → S k → T k) : Kep T a b := ⟨h.os, h.tape, h.output, h.size, fun i hi hs => h.block i hi (fun hS => hs (hst i hi hS))⟩
theorem Kep.grown {S : Nat → Prop} {a w w' : World} {row : Option Nat} (h : Kep S a w) (hg : w.grownBy w' row) (hr : ∀ k, row = some k → k < a.heap.size → S k) : Kep S a w' :=
  ⟨hg.os.trans h.os, hg.tape.trans h.tape, hg.output.trans h.output, Nat.le_trans h.size hg.size, fun i hi hs => (hg.block i (Nat.lt_of_lt_of_le hi h.size) (fun e => hs (hr i e.symm hi))).trans (h.block i hi hs)⟩
theorem Kep.bel {S : Nat → Prop} {a b w : World} (h : Bel a b) (k : Kep S b w) (hs : ∀ k, S k → a.heap.size ≤ k) : Bel a w :=
  ⟨k.os.trans (Below.os h), k.tape.trans (Below.tape h), k.output.trans (Below.output h), Nat.le_trans (Below.size h) k.size, fun i hi => (k.block i (Nat.lt_of_lt_of_le hi (Below.size h)) (fun hS => by have := hs i hS; omega)).trans (Below.block h i hi)⟩
theorem Kep.alloc {S : Nat → Prop} {a w : World} (h : Kep S a w) (o : Obj) : Kep S a (w.alloc o) := h.trans (Kep.of_bel ((Bel.refl w).alloc o))
theorem Kep.drewN {S : Nat → Prop} {a w : World} (h : Kep S a w) (n : Nat) : Kep S a (w.drewN n) := h.trans (Kep.of_bel ((Bel.refl w).drewN n))
theorem Kep.drew {S : Nat → Prop} {a w : World} (h : Kep S a w) : Kep S a w.drew := h.trans (Kep.of_bel ((Bel.refl w).drew))
theorem Kep.set {S : Nat → Prop} {a w : World} (h : Kep S a w) {b o : Nat} (hp : S b) (u : Value) : Kep S a (w.setCell ⟨b, o, none⟩ u) :=
  h.trans ⟨rfl, rfl, rfl, by have := (KeepsWalks.setCell w ⟨b, o, none⟩ u).size; exact this, fun k hk hs => Below.heap_setCell w ⟨b, o, none⟩ u k (fun e => hs (by rw [e]; exact hp))⟩
theorem Kep.cell {S : Nat → Prop} {a w : World} (h : Kep S a w) {b o : Nat} {v : Value} (hs : ¬ S b) (hc : a.cell? ⟨b, o, none⟩ = some v) : w.cell? ⟨b, o, none⟩ = some v :=
  (World.cell?_of_block (w := a) (h.block b (World.block_lt_of_cell? a ⟨b, o, none⟩ hc) hs)).trans hc
theorem Kep.ints {S : Nat → Prop} {k : IntKind} {a w : World} {A : Option Addr} {n : Nat} {zs : List Int} (h : Kep S a w) (hs : ∀ x, A = some x → ¬ S x.block) (hi : Ints k a A n zs) : Ints k w A n zs := by
  refine ⟨hi.1, fun hn => ?_⟩
  obtain ⟨b, o, rfl, hlt, hc⟩ := hi.2 hn
  exact ⟨b, o, rfl, Nat.lt_of_lt_of_le hlt h.size, fun i hin => h.cell (hs _ rfl) (hc i hin)⟩
theorem Kep.owns {S : Nat → Prop} {a w : World} {base : Nat} {e : TypeId} {size : Nat} {v : Value} {n : Nat} {xs : List Value} (h : Kep S a w) (hs : ∀ k, v.ownBlock = some k → ¬ S k) (ho : a.ownsRow base e size v n xs) : w.ownsRow base e size v n xs := by
  refine ⟨ho.1, ho.2.imp id ?_⟩
  rintro ⟨g, cap, cur, rfl, hb, hg, r⟩
  exact ⟨g, cap, cur, rfl, hb, (h.block g (Array.getElem?_eq_some_iff.1 hg).1 (hs g rfl)).trans hg, r⟩

theorem xor_u8 (a b : Int) (w : World) : ∃ z, bits .xor .u8 a b = z := ⟨_, rfl⟩

theorem sl_lit (w : World) (zs : List Int) : Sl (w.alloc (.cells (zs.map (Value.int .u8)).toArray 5)) (some ⟨w.heap.size, 0, none⟩) zs.length zs.length zs := by
  refine ⟨⟨rfl, fun hn => ⟨w.heap.size, 0, rfl, by simp, fun i hi => ?_⟩⟩, Nat.le_refl _, fun h => by cases h⟩
  rw [Nat.zero_add, World.cell?_alloc_new, List.getElem?_toArray, List.getElem?_map, List.getElem?_eq_getElem hi, getD_eq _ _ hi]
  rfl

/-- A block of cells. -/
def Blk (w : World) (b : Nat) (cs : Array Value) (t : TypeId) : Prop := w.heap[b]? = some (.cells cs t (0, 0))
theorem Blk.lt {w : World} {b : Nat} {cs : Array Value} {t : TypeId} (h : Blk w b cs t) : b < w.heap.size := (Array.getElem?_eq_some_iff.1 h).1
theorem Blk.cell {w : World} {b : Nat} {cs : Array Value} {t : TypeId} (h : Blk w b cs t) (i : Nat) {v : Value} (hv : cs[i]? = some v) : w.cell? ⟨b, i, none⟩ = some v := by
  rw [cell_of_row w b i cs t (0, 0) h, hv]
theorem Blk.frozen {w : World} {b : Nat} {cs : Array Value} {t : TypeId} (h : Blk w b cs t) (i : Nat) : w.frozen? ⟨b, i, none⟩ = false := frozen_of_row w b i cs t h
theorem Blk.new (w : World) (cs : Array Value) (t : TypeId) : Blk (w.alloc (.cells cs t)) w.heap.size cs t := World.alloc_heap_new w _
theorem Blk.set {w : World} {b : Nat} {cs : Array Value} {t : TypeId} (h : Blk w b cs t) (i : Nat) (v : Value) : Blk (w.setCell ⟨b, i, none⟩ v) b (cs.setIfInBounds i v) t := heap_setCell_same w b i cs t v h
theorem Blk.other {w : World} {b : Nat} {cs : Array Value} {t : TypeId} (h : Blk w b cs t) {b' : Nat} (hne : b ≠ b') (i : Nat) (v : Value) : Blk (w.setCell ⟨b', i, none⟩ v) b cs t := (heap_setCell_other w ⟨b', i, none⟩ b v hne).trans h
theorem Blk.kep {S : Nat → Prop} {w w' : World} {b : Nat} {cs : Array Value} {t : TypeId} (h : Blk w b cs t) (hk : Kep S w w') (hs : ¬ S b) : Blk w' b cs t := (hk.block b h.lt hs).trans h
theorem Blk.bel {w w' : World} {b : Nat} {cs : Array Value} {t : TypeId} (h : Blk w b cs t) (hk : Bel w w') : Blk w' b cs t := (Below.block hk b h.lt).trans h
theorem Blk.alloc {w : World} {b : Nat} {cs : Array Value} {t : TypeId} (h : Blk w b cs t) (o : Obj) : Blk (w.alloc o) b cs t := h.bel ((Bel.refl w).alloc o)
/-- A row of bytes is no block of another type. -/
theorem Blk.not_row {w : World} {b : Nat} {cs : Array Value} {t e : TypeId} (h : Blk w b cs t) (hte : t ≠ e) {base size k : Nat} {v : Value} {xs : List Value} (hr : w.ownsRow base e size v k xs) : v.ownBlock ≠ some b := by
  rcases hr.2 with ⟨rfl, _⟩ | ⟨g, cap, cur, rfl, _, hgb, _⟩
  · simp [Value.ownBlock]
  · intro e'
    obtain rfl : g = b := by simpa [Value.ownBlock] using e'
    have := (show w.heap[g]? = _ from h).symm.trans hgb
    simp at this
    exact hte this.2
theorem owns_set {w : World} {base : Nat} {e : TypeId} {size : Nat} {v : Value} {n : Nat} {xs : List Value} (ho : w.ownsRow base e size v n xs) {b : Nat} (hne : v.ownBlock ≠ some b) (i : Nat) (u : Value) : (w.setCell ⟨b, i, none⟩ u).ownsRow base e size v n xs := by
  exact Kep.owns (S := fun k => k = b) (Kep.set (S := fun k => k = b) (Kep.refl _ w) (b := b) (o := i) rfl u) (fun k hk e => hne (by rw [hk, e])) ho

theorem Kep.set_self {b : Nat} {a w : World} (h : Kep (fun i => i = b) a w) (o : Nat) (u : Value) : Kep (fun i => i = b) a (w.setCell ⟨b, o, none⟩ u) := Kep.set (S := fun i => i = b) h (b := b) (o := o) rfl u

end Kk
end Go.Proofs.Ytgdaojbflokmoaa
end

section
/-
  Rows of cells in a block that is known whole, and results that lie in cells. No condition.
-/
namespace Go.Proofs.Ytgdaojbflokmoaa
open Go.RowKit Go.Shelf
set_option linter.unusedVariables false
namespace Pm
open Kk

def putA (C : Array Value) (o : Nat) : List Value → Array Value
  | [] => C
  | v :: r => putA (C.setIfInBounds o v) (o + 1) r
theorem blk_setCells {b : Nat} {t : TypeId} : ∀ (vs : List Value) (o : Nat) (w : World) (C : Array Value), Blk w b C t → Blk (w.setCells b o vs) b (putA C o vs) t
  | [], _, _, _, h => h
  | v :: r, o, w, C, h => blk_setCells r (o + 1) (w.setCell ⟨b, o, none⟩ v) (C.setIfInBounds o v) (h.set o v)
theorem putA_mid : ∀ (vs mid pre post : List Value), mid.length = vs.length → putA (pre ++ (mid ++ post)).toArray pre.length vs = (pre ++ (vs ++ post)).toArray
  | [], mid, pre, post, h => by
    have : mid = [] := List.length_eq_zero_iff.1 h
    subst this
    rfl
  | v :: r, [], pre, post, h => by cases h
  | v :: r, m :: mid, pre, post, h => by
    have e : (pre ++ (m :: mid ++ post)).toArray.setIfInBounds pre.length v = ((pre ++ [v]) ++ (mid ++ post)).toArray := by
      rw [List.setIfInBounds_toArray, List.set_append_right _ _ (Nat.le_refl _), Nat.sub_self]
      simp
    show putA ((pre ++ (m :: mid ++ post)).toArray.setIfInBounds pre.length v) (pre.length + 1) r = _
    rw [e, show pre.length + 1 = (pre ++ [v]).length by simp, putA_mid r mid (pre ++ [v]) post (by simpa using h)]
    simp
/-- A row stored into the middle. -/
theorem bmid {w : World} {b : Nat} {t : TypeId} {pre mid post vs : List Value} (h : Blk w b (pre ++ (mid ++ post)).toArray t) (hl : mid.length = vs.length) : Blk (w.setCells b pre.length vs) b (pre ++ (vs ++ post)).toArray t := by
  have := blk_setCells vs pre.length w _ h
  rwa [putA_mid vs mid pre post hl] at this
theorem bwhole {w : World} {b : Nat} {t : TypeId} {C : Array Value} {vs : List Value} (h : Blk w b C t) (hl : C.size = vs.length) : Blk (w.setCells b 0 vs) b vs.toArray t := by
  have h2 : Blk w b ([] ++ (C.toList ++ [])).toArray t := by simpa using h
  have := bmid (vs := vs) h2 (by simpa using hl)
  simpa using this
theorem brange {w : World} {b : Nat} {t : TypeId} {pre mid post : List Value} (h : Blk w b (pre ++ (mid ++ post)).toArray t) : w.rangeAt b pre.length mid := fun j v hv => by
  have hj : j < mid.length := (List.getElem?_eq_some_iff.1 hv).1
  refine h.cell _ ?_
  rw [List.getElem?_toArray, List.getElem?_append_right (by omega), Nat.add_sub_cancel_left, List.getElem?_append_left hj]
  exact hv
theorem bthere {w : World} {b : Nat} {t : TypeId} {C : Array Value} (h : Blk w b C t) (o n : Nat) (hn : o + n ≤ C.size) : w.there b o n := fun j hj =>
  ⟨by rw [h.cell (o + j) (Array.getElem?_eq_getElem (by omega))]; rfl, h.frozen _⟩
theorem kep_setCells (b : Nat) : ∀ (vs : List Value) (o : Nat) (w : World), Kep (fun i => i = b) w (w.setCells b o vs) := by
  intro vs
  induction vs with
  | nil => intro o w; exact Kep.refl _ _
  | cons v vs ih => intro o w; exact (Kep.set_self (Kep.refl _ w) o v).trans (ih (o + 1) _)

theorem bel_setCells {w w' : World} (h : Bel w w') {g : Nat} (hg : w.heap.size ≤ g) (o : Nat) (vs : List Value) : Bel w (w'.setCells g o vs) := Kep.bel h (kep_setCells g vs o w') (fun i hi => by rw [hi]; exact hg)
theorem rngB {w : World} {b : Nat} {C : List Value} {t : TypeId} (h : Blk w b C.toArray t) : w.rangeAt b 0 C := fun j u hu => by
  rw [Nat.zero_add]
  exact h.cell j (by rw [List.getElem?_toArray]; exact hu)
theorem rng_bel {w w' : World} {b o : Nat} {Y : List Value} (h : w.rangeAt b o Y) (hb : Bel w w') : w'.rangeAt b o Y := fun i v hv =>
  (Below.cell (p := ⟨b, o + i, none⟩) hb (World.block_lt_of_cell? w _ (h i v hv))).trans (h i v hv)
theorem cell_bel {w w' : World} {b o : Nat} {v : Value} (h : w.cell? ⟨b, o, none⟩ = some v) (hb : Bel w w') : w'.cell? ⟨b, o, none⟩ = some v :=
  (Below.cell (p := ⟨b, o, none⟩) hb (World.block_lt_of_cell? w _ h)).trans h
theorem cell_kep {S : Nat → Prop} {w w' : World} {b o : Nat} {v : Value} (h : w.cell? ⟨b, o, none⟩ = some v) (hb : Kep S w w') (hs : ¬ S b) : w'.cell? ⟨b, o, none⟩ = some v := hb.cell hs h
theorem rng_kep {S : Nat → Prop} {w w' : World} {b o : Nat} {Y : List Value} (h : w.rangeAt b o Y) (hb : Kep S w w') (hs : ¬ S b) : w'.rangeAt b o Y := fun i v hv => hb.cell hs (h i v hv)
theorem res_c {fn : Func} {p : Tmp} {tp : TypeId} (h : fn.results = #[.cell p tp]) (tmps : Array Value) (w : World) (a : Addr) (X : Value)
    (hp : tmps.getD p undef = .pointer (some a)) (hX : (loadVar tp a).run Try.prog w = .ok X w) : (results fn tmps).run Try.prog w = .ok X w := by
  have hp' : tmps[p]?.getD undef = .pointer (some a) := by simpa using hp
  simp [results, h, hp', asAddr, hX]
theorem res_ci {fn : Func} {p q : Tmp} {tp : TypeId} (h : fn.results = #[.cell p tp, .tmp q]) (tmps : Array Value) (w : World) (a : Addr) (X Y : Value)
    (hp : tmps.getD p undef = .pointer (some a)) (hq : tmps.getD q undef = Y) (hX : (loadVar tp a).run Try.prog w = .ok X w) : (results fn tmps).run Try.prog w = .ok (.tuple #[X, Y]) w := by
  have hp' : tmps[p]?.getD undef = .pointer (some a) := by simpa using hp
  have hq' : tmps[q]?.getD undef = Y := by simpa using hq
  simp [results, h, hp', hq', asAddr, hX]
theorem res_cc {fn : Func} {p q : Tmp} {tp tq : TypeId} (h : fn.results = #[.cell p tp, .cell q tq]) (tmps : Array Value) (w : World) (a c : Addr) (X Y : Value)
    (hp : tmps.getD p undef = .pointer (some a)) (hq : tmps.getD q undef = .pointer (some c)) (hX : (loadVar tp a).run Try.prog w = .ok X w) (hY : (loadVar tq c).run Try.prog w = .ok Y w) :
    (results fn tmps).run Try.prog w = .ok (.tuple #[X, Y]) w := by
  have hp' : tmps[p]?.getD undef = .pointer (some a) := by simpa using hp
  have hq' : tmps[q]?.getD undef = .pointer (some c) := by simpa using hq
  simp [results, h, hp', hq', asAddr, hX, hY]
theorem load_b {w : World} {b : Nat} {C : List Value} {t : TypeId} (h : Blk w b C.toArray t) {d : TypeDesc} (hu : Try.prog.underlying t = some d) (hd : d.isRow = true) (hi : (Try.prog.info? t).map (·.size) = some C.length) :
    (loadVar t ⟨b, 0, none⟩).run Try.prog w = .ok (.agg C.toArray) w := run_loadVar_mid (P := Try.prog) _ _ _ t C _ (rngB h) hu hd hi
end Pm
end Go.Proofs.Ytgdaojbflokmoaa
end

section
/-
  Plain arithmetic of dividing two words by one word, as math/bits does it (no Go program in sight): how far a divisor is shifted, and each digit's guess.
  Conditions: numbers below 2^64, the high word below the divisor.
-/
namespace Go.Proofs.Ytgdaojbflokmoaa
namespace DivArith

theorem bitLen_bounds (x : Nat) : 0 < x → x < 2 ^ 64 → 1 ≤ Lib.bitLen x ∧ 2 ^ (Lib.bitLen x - 1) ≤ x ∧ x < 2 ^ Lib.bitLen x := by
  induction x using Nat.strongRecOn with
  | ind x ih =>
    intro h0 h1
    rw [Lib.bitLen_half x (by omega) h1]
    by_cases h2 : x / 2 = 0
    · have : x = 1 := by omega
      subst this
      decide
    · obtain ⟨a, b, c⟩ := ih (x / 2) (by omega) (by omega) (by omega)
      obtain ⟨k, hk⟩ : ∃ k, Lib.bitLen (x / 2) = k + 1 := ⟨Lib.bitLen (x / 2) - 1, by omega⟩
      rw [hk] at b c ⊢
      rw [show 1 + (k + 1) - 1 = k + 1 from by omega, show 1 + (k + 1) = k + 1 + 1 from by omega]
      simp only [Nat.pow_succ, Nat.add_sub_cancel] at b c ⊢
      omega

theorem pow_le_of {k : Nat} (x : Nat) (h : 2 ^ k ≤ x) (hx : x < 2 ^ 64) : k < 64 := by
  rcases Nat.lt_or_ge k 64 with h' | h'
  · exact h'
  · have := Nat.pow_le_pow_right (n := 2) (by omega) h'
    omega

/-- How far a divisor is shifted. -/
theorem shift_of (y : Nat) (h0 : 0 < y) (h1 : y < 2 ^ 64) :
    ∃ s : Nat, s < 64 ∧ Lib.bitLen y + s = 64 ∧ 2 ^ 63 ≤ y * 2 ^ s ∧ y * 2 ^ s < 2 ^ 64 := by
  obtain ⟨a, b, c⟩ := bitLen_bounds y h0 h1
  have hk := pow_le_of y b h1
  refine ⟨64 - Lib.bitLen y, by omega, by omega, ?_, ?_⟩
  · calc 2 ^ 63 = 2 ^ (Lib.bitLen y - 1) * 2 ^ (64 - Lib.bitLen y) := by rw [← Nat.pow_add]; congr 1; omega
      _ ≤ _ := Nat.mul_le_mul_right _ b
  · calc y * 2 ^ (64 - Lib.bitLen y) < 2 ^ Lib.bitLen y * 2 ^ (64 - Lib.bitLen y) := Nat.mul_lt_mul_of_pos_right c (Nat.two_pow_pos _)
      _ = 2 ^ 64 := by rw [← Nat.pow_add]; congr 1; omega

theorem or_shift (h l s : Nat) (hs : s < 64) (hl : l < 2 ^ 64) :
    (h * 2 ^ s) ||| (l / 2 ^ (64 - s)) = h * 2 ^ s + l / 2 ^ (64 - s) := by
  have hlt : l / 2 ^ (64 - s) < 2 ^ s := by
    rw [Nat.div_lt_iff_lt_mul (Nat.two_pow_pos _), ← Nat.pow_add, show s + (64 - s) = 64 from by omega]
    exact hl
  rw [Nat.mul_comm h, ← Nat.two_pow_add_eq_or_of_lt hlt h]

/-- The dividend, shifted: its two words. -/
theorem words_shift (h l s : Nat) (hs : s < 64) :
    (h * 2 ^ 64 + l) * 2 ^ s = (h * 2 ^ s + l / 2 ^ (64 - s)) * 2 ^ 64 + l * 2 ^ s % 2 ^ 64 := by
  have e : (2 : Nat) ^ 64 = 2 ^ (64 - s) * 2 ^ s := by rw [← Nat.pow_add]; congr 1; omega
  have h3 : l * 2 ^ s % 2 ^ 64 = l % 2 ^ (64 - s) * 2 ^ s := by rw [e, Nat.mul_mod_mul_right]
  have h4 := Nat.div_add_mod l (2 ^ (64 - s))
  have h5 : l * 2 ^ s = l / 2 ^ (64 - s) * 2 ^ 64 + l % 2 ^ (64 - s) * 2 ^ s := by
    conv => lhs; rw [← h4]
    rw [Nat.add_mul, e, Nat.mul_comm (2 ^ (64 - s)) (l / _), Nat.mul_assoc]
  rw [h3, Nat.add_mul, Nat.add_mul, h5, Nat.mul_right_comm]
  omega

/-! ### A digit's guess (over Int) -/
/-- what holds of the guess q and of what is left, r, while the guess is corrected. -/
structure Inv (A B u d Q q r : Int) : Prop where
  q0 : 0 ≤ q
  r0 : 0 ≤ r
  e : q * A + r = u
  ge : Q ≤ q
  le : q ≤ 4294967297

variable {v A B u d Q q r : Int}

/-- the setting of one digit -/
structure Set_ (v A B u d Q R : Int) : Prop where
  hv : v = A * 4294967296 + B
  a0 : 2147483648 ≤ A
  a1 : A < 4294967296
  b0 : 0 ≤ B
  b1 : B < 4294967296
  u0 : 0 ≤ u
  u1 : u < v
  d0 : 0 ≤ d
  d1 : d < 4294967296
  q0 : 0 ≤ Q
  e : Q * v + R = u * 4294967296 + d
  r0 : 0 ≤ R
  r1 : R < v

theorem Set_.exp {R : Int} (S : Set_ v A B u d Q R) : Q * A * 4294967296 + Q * B + R = u * 4294967296 + d := by
  have := S.e
  rw [S.hv, Int.mul_add, ← Int.mul_assoc] at this
  exact this

theorem Set_.q1 {R : Int} (S : Set_ v A B u d Q R) : Q < 4294967296 := by
  rcases Int.lt_or_le Q 4294967296 with h | h
  · exact h
  · have hv : 0 ≤ v := by have := S.hv; have := S.a0; have := S.b0; omega
    have h1 := Int.mul_le_mul_of_nonneg_right h hv
    have h2 := S.e; have h3 := S.u1; have h4 := S.r0; have h5 := S.d1
    generalize Q * v = t at *
    omega

theorem Set_.start {R : Int} (S : Set_ v A B u d Q R) : Inv A B u d Q (u / A) (u - u / A * A) ∧ u - u / A * A < 4294967296 := by
  have a0 := S.a0; have a1 := S.a1; have b0 := S.b0; have b1 := S.b1; have u0 := S.u0; have u1 := S.u1; have d0 := S.d0; have d1 := S.d1; have q0 := S.q0
  have r0 := S.r0
  have he := S.exp
  have hv := S.hv
  have hm := Int.emod_add_mul_ediv u A
  have m0 := Int.emod_nonneg u (b := A) (by omega)
  have m1 := Int.emod_lt_of_pos u (b := A) (by omega)
  have e1 : u / A * A = A * (u / A) := Int.mul_comm _ _
  have qb : 0 ≤ Q * B := Int.mul_nonneg q0 b0
  have hQ : Q ≤ u / A := by
    rw [Int.le_ediv_iff_mul_le (by omega)]
    generalize Q * A = t at *
    omega
  have hle : u / A ≤ 4294967297 := by
    have : u / A < 4294967298 := by
      rw [Int.ediv_lt_iff_lt_mul (by omega)]
      omega
    omega
  refine ⟨⟨Int.ediv_nonneg u0 (by omega), ?_, ?_, hQ, hle⟩, ?_⟩ <;> omega

/-- The test said yes: the guess is too great. -/
theorem Set_.great {R : Int} (S : Set_ v A B u d Q R) (I : Inv A B u d Q q r) (h : 4294967296 ≤ q ∨ r * 4294967296 + d < q * B) : Q < q := by
  rcases h with h | h
  · have := S.q1; omega
  · rcases Int.lt_or_le Q q with h' | h'
    · exact h'
    · exfalso
      have : q = Q := by have := I.ge; omega
      subst this
      have h1 := S.exp; have h2 := I.e; have h3 := S.r0
      generalize q * A = t at *
      omega

theorem Set_.next {R : Int} (S : Set_ v A B u d Q R) (I : Inv A B u d Q q r) (h : Q < q) : Inv A B u d Q (q - 1) (r + A) := by
  have h1 := S.q0; have h2 := S.a0; have h3 := I.r0; have h4 := I.le
  refine ⟨by omega, by omega, ?_, by omega, by omega⟩
  have := I.e
  rw [Int.sub_mul]
  omega

/-- The guess is not too great: it is the digit. -/
theorem Set_.hit {R : Int} (S : Set_ v A B u d Q R) (I : Inv A B u d Q q r) (h : q * B ≤ r * 4294967296 + d) : q = Q := by
  have hge := I.ge
  rcases Int.lt_or_le Q q with h' | h'
  · exfalso
    have h1 := S.e; have h2 := I.e; have h3 := S.r1; have h4 := S.hv
    have h5 : (Q + 1) * v ≤ q * v := Int.mul_le_mul_of_nonneg_right (by omega) (by have := S.a0; have := S.b0; omega)
    have h6 : q * v = q * A * 4294967296 + q * B := by rw [h4, Int.mul_add, ← Int.mul_assoc]
    rw [Int.add_mul] at h5
    generalize q * A = t at *
    generalize q * B = t' at *
    generalize q * v = t'' at *
    generalize Q * v = s at *
    omega
  · omega

theorem Set_.full {R : Int} (S : Set_ v A B u d Q R) (I : Inv A B u d Q q r) (hr : 4294967296 ≤ r) (hq : q ≤ 4294967296) : q = Q := by
  refine S.hit I ?_
  have h1 : q * B ≤ 4294967296 * B := Int.mul_le_mul_of_nonneg_right hq S.b0
  have := S.b1; have := S.d0
  omega

/-- What is left behind the digit, as the words reckon it. -/
theorem Set_.left {R : Int} (S : Set_ v A B u d Q R) (hv : v ≤ 18446744073709551616) :
    ((u * 4294967296 % 18446744073709551616 + d) % 18446744073709551616 - Q * v % 18446744073709551616) % 18446744073709551616 = R := by
  have h1 := S.e; have h2 := S.r0; have h3 := S.r1
  generalize Q * v = t at *
  omega

theorem Set_.mk' {v A B u d : Int} (hv : v = A * 4294967296 + B) (a0 : 2147483648 ≤ A) (a1 : A < 4294967296) (b0 : 0 ≤ B) (b1 : B < 4294967296) (u0 : 0 ≤ u) (u1 : u < v) (d0 : 0 ≤ d) (d1 : d < 4294967296) :
    Set_ v A B u d ((u * 4294967296 + d) / v) ((u * 4294967296 + d) % v) :=
  ⟨hv, a0, a1, b0, b1, u0, u1, d0, d1, Int.ediv_nonneg (by omega) (by omega), (by have := Int.emod_add_mul_ediv (u * 4294967296 + d) v; rw [Int.mul_comm]; omega), Int.emod_nonneg _ (by omega), Int.emod_lt_of_pos _ (by omega)⟩

end DivArith
end Go.Proofs.Ytgdaojbflokmoaa
end

section
/-
  The walk through math/bits.Div64 where the high word is not 0: normalization and two digits, all of its numbers named.
  Conditions: 0 < hi < y < 2^64, 0 <= lo < 2^64; each named number is what the program reckons there.
-/
namespace Go.Proofs.Ytgdaojbflokmoaa
open Go.RowKit Go.Shelf
namespace Div64
open DivArith
set_option linter.unusedVariables false

theorem mul_small {q B : Int} (h0 : 0 ≤ q) (h1 : q < 4294967296) (b0 : 0 ≤ B) (b1 : B < 4294967296) : 0 ≤ q * B ∧ q * B ≤ 18446744065119617025 := by
  refine ⟨Int.mul_nonneg h0 b0, ?_⟩
  have a : q * B ≤ 4294967295 * B := Int.mul_le_mul_of_nonneg_right (by omega) b0
  omega

/-- The ways through one round of a digit's correction. -/
theorem cases_of {v A B u d Q R q r : Int} (S : Set_ v A B u d Q R) (I : Inv A B u d Q q r) (hr : r < 4294967296) :
    (Q < q ∧ Inv A B u d Q (q - 1) (r + A) ∧ r + A < 4294967296 ∧ (4294967296 ≤ q ∨ (q < 4294967296 ∧ 4294967296 * r + d < q * B ∧ 0 ≤ q * B ∧ q * B ≤ 18446744065119617025))) ∨
    ((q = Q + 1 ∧ 4294967296 ≤ r + A ∧ 4294967296 ≤ q) ∨
     (q = Q + 1 ∧ 4294967296 ≤ r + A ∧ q < 4294967296 ∧ 4294967296 * r + d < q * B ∧ 0 ≤ q * B ∧ q * B ≤ 18446744065119617025) ∨
     (q = Q ∧ q < 4294967296 ∧ q * B ≤ 4294967296 * r + d ∧ 0 ≤ q * B ∧ q * B ≤ 18446744065119617025)) := by
  have c0 := I.q0; have cl := I.le
  rcases Int.lt_or_le q 4294967296 with hq | hq
  · obtain ⟨m3, m4⟩ := mul_small c0 hq S.b0 S.b1
    rcases Int.lt_or_le (r * 4294967296 + d) (q * B) with c | c
    · have hgt := S.great I (.inr c)
      have I' := S.next I hgt
      rcases Int.lt_or_le (r + A) 4294967296 with hb | hb
      · exact .inl ⟨hgt, I', hb, .inr ⟨hq, by omega, m3, m4⟩⟩
      · have := S.full I' hb (by omega)
        exact .inr (.inr (.inl ⟨by omega, hb, hq, by omega, m3, m4⟩))
    · exact .inr (.inr (.inr ⟨S.hit I c, hq, by omega, m3, m4⟩))
  · have hgt := S.great I (.inl hq)
    have I' := S.next I hgt
    rcases Int.lt_or_le (r + A) 4294967296 with hb | hb
    · exact .inl ⟨hgt, I', hb, .inl hq⟩
    · have := S.full I' hb (by omega)
      exact .inr (.inl ⟨by omega, hb, hq⟩)

end Div64
end Go.Proofs.Ytgdaojbflokmoaa
end

section
/-
  What math/bits.Div64 answers in this program: for a high word below the divisor, the quotient and the rest of two words by one; the world is as it was, but for draws of an order.
  Conditions: hi < y < 2^64, lo < 2^64.
-/
namespace Go.Proofs.Ytgdaojbflokmoaa
open Go.RowKit Go.Shelf
namespace Div64
open DivArith
set_option linter.unusedVariables false

theorem tail_of (T y P Q Q2 R R2 un D1 D0 : Nat) (hP : 0 < P) (hy : 0 < y) (e1 : Q * (y * P) + R = un * 4294967296 + D1) (e2 : Q2 * (y * P) + R2 = R * 4294967296 + D0) (e3 : T * P = un * 18446744073709551616 + (D1 * 4294967296 + D0)) (h2 : R2 < y * P) :
    Q * 4294967296 + Q2 = T / y ∧ R2 / P = T % y := by
  have a : (Q * 4294967296 + Q2) * (y * P) + R2 = T * P := by
    rw [Nat.add_mul, Nat.mul_right_comm]
    generalize Q * (y * P) = t at *
    generalize Q2 * (y * P) = t' at *
    omega
  have b : R2 = (T - (Q * 4294967296 + Q2) * y) * P := by
    rw [Nat.sub_mul, Nat.mul_assoc]
    omega
  have c : (Q * 4294967296 + Q2) * y ≤ T := by
    have : (Q * 4294967296 + Q2) * y * P ≤ T * P := by rw [Nat.mul_assoc]; omega
    exact Nat.le_of_mul_le_mul_right this hP
  have d : T - (Q * 4294967296 + Q2) * y < y := by
    have : (T - (Q * 4294967296 + Q2) * y) * P < y * P := by rw [← b]; exact h2
    exact Nat.lt_of_mul_lt_mul_right this
  have e : T = y * (Q * 4294967296 + Q2) + (T - (Q * 4294967296 + Q2) * y) := by rw [Nat.mul_comm y]; omega
  refine ⟨?_, ?_⟩
  · conv => rhs; rw [e]
    rw [Nat.mul_add_div hy, Nat.div_eq_of_lt d, Nat.add_zero]
  · rw [b, Nat.mul_div_cancel _ hP]
    conv => rhs; rw [e]
    rw [Nat.mul_add_mod, Nat.mod_eq_of_lt d]

theorem wrapM (a : Nat) : IntKind.u64.wrap (a : Int) = ((a % 18446744073709551616 : Nat) : Int) := by rw [IntKind.wrap_u64]; omega

end Div64
end Go.Proofs.Ytgdaojbflokmoaa
end

section
/-
  What math/bits.Mul64, Add64 and Sub64 answer in this program, over Int: two words of a product, a sum and its carry, a difference and its borrow; the world is as it was.
  Conditions: words are from 0 to 2^64 - 1; a carry or borrow that comes in is 0 or 1.
-/
namespace Go.Proofs.Ytgdaojbflokmoaa
open Go.RowKit Go.Shelf
set_option linter.unusedVariables false

/-- A number's two words. -/
def hi (P : Int) : Int := P / 18446744073709551616
def lo (P : Int) : Int := P % 18446744073709551616
theorem lo0 (P : Int) : 0 ≤ lo P := by unfold lo; omega
theorem lo1 (P : Int) : lo P ≤ 18446744073709551615 := by unfold lo; omega
theorem hi0 {P : Int} (h : 0 ≤ P) : 0 ≤ hi P := by unfold hi; omega
theorem hi1 {P : Int} (h : P < 340282366920938463463374607431768211456) : hi P ≤ 18446744073709551615 := by unfold hi; omega
theorem hilo (P : Int) : hi P * 18446744073709551616 + lo P = P := by unfold hi lo; omega
theorem hi_eq {P h l : Int} (e : h * 18446744073709551616 + l = P) (l0 : 0 ≤ l) (l1 : l ≤ 18446744073709551615) : hi P = h := by unfold hi; omega
theorem lo_eq {P h l : Int} (e : h * 18446744073709551616 + l = P) (l0 : 0 ≤ l) (l1 : l ≤ 18446744073709551615) : lo P = l := by unfold lo; omega
theorem mul_le {a b : Int} (a0 : 0 ≤ a) (a1 : a ≤ 18446744073709551615) (b0 : 0 ≤ b) (b1 : b ≤ 18446744073709551615) : 0 ≤ a * b ∧ a * b ≤ 340282366920938463426481119284349108225 := by
  refine ⟨Int.mul_nonneg a0 b0, ?_⟩
  have h1 : a * b ≤ 18446744073709551615 * b := Int.mul_le_mul_of_nonneg_right a1 b0
  omega

def Try.lays25_ren : Go.Shelf.Ren := ⟨fun | 25 => 108 | n => n, fun | 22 => 23 | n => n, fun | n => n⟩
theorem Try.lays25 : Go.Proofs.Lays7.n25 Try.prog Try.lays25_ren := {
  mixed := by kernel_rfl
  f25 := Try.func108.trans (congrArg some (by kernel_rfl))
  t22 := Try.underlying23
  a22 := Try.isAgg23
  z22 := Try.sizeOf23
  v22 := Try.zeroValue23
  i22 := by kernel_rfl }
/-- The borrow of a difference. -/
def bor (x y : Int) : Int := if x < y then 1 else 0
theorem bor0 (x y : Int) : 0 ≤ bor x y := by unfold bor; split <;> decide
theorem bor1 (x y : Int) : bor x y ≤ 1 := by unfold bor; split <;> decide

theorem add64_0 (x y : Int) (hx : 0 ≤ x) (hy : 0 ≤ y) (w : World) : (callFunc 108 #[.int .u64 x, .int .u64 y, .int .u64 0]).run Try.prog w =
    .ok (.value (.tuple #[.int .u64 (lo (x + y)), .int .u64 (hi (x + y))])) w := by
  obtain ⟨x, rfl⟩ := Int.eq_ofNat_of_zero_le hx
  obtain ⟨y, rfl⟩ := Int.eq_ofNat_of_zero_le hy
  refine (Any7.bits_Add64 Try.lays25 x y 0 (by omega) w).trans ?_
  unfold hi lo
  congr 5 <;> omega
end Go.Proofs.Ytgdaojbflokmoaa
end

section
/-
  What fixnum.Add, Sub, Sum and distraintref01.Add, Sum answer: the texts of stage 1, over the memory words of stage 3. Conditions: the amounts are words.
-/
namespace Go.Proofs.Ytgdaojbflokmoaa
open Go.RowKit Go.Shelf
set_option linter.unusedVariables false

/-- The sum of the first k. -/
def sumTo (zs : List Int) : Nat → Int
  | 0 => 0
  | k + 1 => sumTo zs k + zs.getD k 0
/-- Words. -/
def Words (zs : List Int) : Prop := ∀ i, 0 ≤ zs.getD i 0 ∧ zs.getD i 0 ≤ 18446744073709551615
theorem words_of {zs : List Int} (h : ∀ z ∈ zs, 0 ≤ z ∧ z ≤ 18446744073709551615) : Words zs := by
  intro i
  rw [List.getD_eq_getElem?_getD]
  rcases Nat.lt_or_ge i zs.length with hi | hi
  · rw [List.getElem?_eq_getElem hi]
    exact h _ (List.getElem_mem hi)
  · rw [List.getElem?_eq_none hi]
    exact ⟨by decide, by decide⟩
theorem sumTo_le {zs : List Int} (h : Words zs) {k n : Nat} (hk : k ≤ n) : sumTo zs k ≤ sumTo zs n := by
  induction n with
  | zero => obtain rfl : k = 0 := by omega
            exact Int.le_refl _
  | succ n ih =>
    rcases Nat.lt_or_ge n k with hlt | hge
    · obtain rfl : k = n + 1 := by omega
      exact Int.le_refl _
    · exact Int.le_trans (ih hge) (by show _ ≤ sumTo zs n + zs.getD n 0; have := h n; omega)
theorem sumTo0 {zs : List Int} (h : Words zs) (k : Nat) : 0 ≤ sumTo zs k := sumTo_le h (Nat.zero_le k)

namespace Fix
/-- A product, as the program keeps it. -/
abbrev PV (P : Int) : Value := .agg #[.int .u64 (hi P), .int .u64 (lo P)]

theorem word_small (H L : Int) (w : World) (h : H = 0) :
    Calls Try.prog 109 #[.agg #[.int .u64 H, .int .u64 L]] w fun e w' => e = .returned (.tuple #[.int .u64 L, .int .i64 0]) ∧ ∃ c, w.alloc (.cells c 129) = w' := by
  subst h
  go_enter Try.func109, Try.ntmps109
  go_wp2
  go_ret2
  exact ⟨rfl, _, rfl⟩

theorem word_great (H L : Int) (w : World) (h : (H == 0) = false) :
    Calls Try.prog 109 #[.agg #[.int .u64 H, .int .u64 L]] w fun e w' => e = .returned (.tuple #[.int .u64 0, .int .i64 12]) ∧ ∃ c, w.alloc (.cells c 129) = w' := by
  go_enter Try.func109, Try.ntmps109
  go_wp2
  go_ret2
  exact ⟨rfl, _, rfl⟩

/-- A number as an amount, or 0 and ErrOver. -/
def amt (P : Int) : Int := if P < 18446744073709551616 then P else 0
def amtE (P : Int) : Int := if P < 18446744073709551616 then 0 else 12
theorem amt_of {P : Int} (h : P ≤ 18446744073709551615) : amt P = P ∧ amtE P = 0 := by unfold amt amtE; rw [if_pos (by omega), if_pos (by omega)]; exact ⟨rfl, rfl⟩
theorem amt_no {P : Int} (h : 18446744073709551615 < P) : amt P = 0 ∧ amtE P = 12 := by unfold amt amtE; rw [if_neg (by omega), if_neg (by omega)]; exact ⟨rfl, rfl⟩
theorem amt0 {P : Int} (h : 0 ≤ P) : 0 ≤ amt P := by unfold amt; split <;> omega
theorem amt1 {P : Int} : amt P ≤ 18446744073709551615 := by unfold amt; split <;> omega

theorem word (P : Int) (w : World) (h0 : 0 ≤ P) :
    Calls Try.prog 109 #[PV P] w fun e w' => e = .returned (.tuple #[.int .u64 (amt P), .int .i64 (amtE P)]) ∧ ∃ c, w.alloc (.cells c 129) = w' := by
  rcases Int.lt_or_le 18446744073709551615 P with h | h
  · obtain ⟨e1, e2⟩ := amt_no h
    rw [e1, e2]
    exact word_great _ _ _ (by rw [beq_eq_false_iff_ne]; unfold hi; omega)
  · obtain ⟨e1, e2⟩ := amt_of h
    rw [e1, e2, show P = lo P by unfold lo; omega]
    refine word_small _ _ _ (by unfold lo hi; omega) |>.mono fun e w' h => ⟨h.1.trans ?_, h.2⟩
    rw [show lo (lo P) = lo P by unfold lo; omega]

theorem add (a b : Int) (w : World) (a0 : 0 ≤ a) (a1 : a ≤ 18446744073709551615) (b0 : 0 ≤ b) (b1 : b ≤ 18446744073709551615) :
    Calls Try.prog 89 #[.int .u64 a, .int .u64 b] w fun e w' => e = .returned (.tuple #[.int .u64 (amt (a + b)), .int .i64 (amtE (a + b))]) ∧ Kk.Bel w w' := by
  go_enter Try.func89, Try.ntmps89
  go_wp2_with (first | simp only [add64_0 a b a0 b0] | (go_at_call 109; refine (word (a + b) _ (by omega)).mono ?_; rintro e w' ⟨rfl, x, rfl⟩))
  go_ret2
  exact ⟨rfl, (Kk.Bel.refl _).alloc _⟩

theorem sub_ok (a b : Int) (w : World) (a0 : 0 ≤ a) (a1 : a ≤ 18446744073709551615) (b0 : 0 ≤ b) (b1 : b ≤ a) :
    Calls Try.prog 105 #[.int .u64 a, .int .u64 b] w fun e w' => e = .returned (.tuple #[.int .u64 (a - b), .int .i64 0]) ∧ w = w' := by
  go_enter Try.func105, Try.ntmps105
  go_wp2
  go_ret2
  exact ⟨rfl, rfl⟩
theorem sub_no (a b : Int) (w : World) (b1 : a < b) :
    Calls Try.prog 105 #[.int .u64 a, .int .u64 b] w fun e w' => e = .returned (.tuple #[.int .u64 0, .int .i64 13]) ∧ w = w' := by
  go_enter Try.func105, Try.ntmps105
  go_wp2
  go_ret2
  exact ⟨rfl, rfl⟩
set_option maxHeartbeats 400000 in
theorem fold (A : Option Addr) (n c : Nat) (zs : List Int) (w : World) (hi : Kk.Ints .u64 w A n zs) (hw : Words zs) (hn : n ≤ 9223372036854775807) :
    Calls Try.prog 111 #[.slice A n c, .func (.func 89) #[] #[]] w fun e w' => e = .returned (.tuple #[.int .u64 (amt (sumTo zs n)), .int .i64 (amtE (sumTo zs n))]) ∧ Kk.Bel w w' := by
  have HW := Lib.hid hw
  clear hw
  have HI := Lib.hid hi
  clear hi
  go_enter Try.func111, Try.ntmps111
  go_wp2_with fail
  go_loopw [4, 5, 10] (fun r e i wr => ∃ k : Nat, k ≤ n ∧ i = .int .i64 k ∧ r = .int .u64 (sumTo zs k) ∧ e = .int .i64 0 ∧ sumTo zs k ≤ 18446744073709551615 ∧ Kk.Bel w wr) (fun _ _ i _ => n - (intOf i).toNat)
  case atStart => exact ⟨0, Nat.zero_le _, rfl, rfl, rfl, by show (0 : Int) ≤ _; decide, Kk.Bel.refl _⟩
  case round =>
    obtain ⟨k, hk, rfl, rfl, rfl, hs, hb⟩ := hrel
    have hs0 := sumTo0 HW.out k
    by_cases hlt : k < n
    · obtain ⟨b, o, rfl, hbw, hc⟩ := (HI.out.bel hb).2 (by omega)
      have hck := hc k hlt
      obtain ⟨z0, z1⟩ := HW.out k
      clear hc
      have hcell : wr.cell? ⟨b, o + k, none⟩ = some (.int .u64 (zs.getD k 0)) := hck
      clear hck
      generalize hz : zs.getD k 0 = z at *
      have HZ := Lib.hid hz
      clear hz
      have hstep : sumTo zs (k + 1) = sumTo zs k + z := by rw [← HZ.out]; rfl
      rcases Int.lt_or_le 18446744073709551615 (sumTo zs k + z) with hgt | hle
      · obtain ⟨e1, e2⟩ := amt_no hgt
        have hend : sumTo zs (k + 1) ≤ sumTo zs n := sumTo_le HW.out (by omega)
        obtain ⟨e3, e4⟩ := amt_no (P := sumTo zs n) (by omega)
        have E3 := Lib.hid e3
        have E4 := Lib.hid e4
        clear e3 e4 hend hstep
        go_wp2_with fail
        refine (add _ _ _ hs0 hs z0 z1).mono ?_
        rintro e w' ⟨rfl, hb'⟩
        go_wp2
        go_ret2
        exact ⟨by rw [E3.out, E4.out]; rfl, hb.trans hb'⟩
      · obtain ⟨e1, e2⟩ := amt_of hle
        have HS := Lib.hid hstep
        clear hstep
        go_wp2_with fail
        refine (add _ _ _ hs0 hs z0 z1).mono ?_
        rintro e w' ⟨rfl, hb'⟩
        go_wp2
        go_roundw
        case rel => exact ⟨k + 1, by omega, by go_num, by rw [HS.out], rfl, by rw [HS.out]; exact hle, hb.trans hb'⟩
        case measure => simp [intOf]; omega
    · obtain rfl : k = n := by omega
      obtain ⟨e3, e4⟩ := amt_of hs
      have E3 := Lib.hid e3
      have E4 := Lib.hid e4
      clear e3 e4
      go_wp2
      go_ret2
      exact ⟨by rw [E3.out, E4.out]; rfl, hb⟩

theorem sum (A : Option Addr) (n c : Nat) (zs : List Int) (w : World) (hi : Kk.Ints .u64 w A n zs) (hw : Words zs) (hn : n ≤ 9223372036854775807) :
    Calls Try.prog 93 #[.slice A n c] w fun e w' => e = .returned (.tuple #[.int .u64 (amt (sumTo zs n)), .int .i64 (amtE (sumTo zs n))]) ∧ Kk.Bel w w' := by
  have F := Lib.hid (fun w' (h : Kk.Ints .u64 w' A n zs) => fold A n c zs w' h hw hn)
  have HI := Lib.hid hi
  clear hi
  go_enter Try.func93, Try.ntmps93
  go_wp2_with fail
  refine (F.out _ HI.out).mono ?_
  rintro e w' ⟨rfl, hb⟩
  go_wp2
  go_ret2
  exact ⟨rfl, hb⟩
end Fix
namespace Ref
open Fix
theorem add (a b : Int) (w : World) (a0 : 0 ≤ a) (a1 : a ≤ 18446744073709551615) (b0 : 0 ≤ b) (b1 : b ≤ 18446744073709551615) :
    Calls Try.prog 91 #[.int .u64 a, .int .u64 b] w fun e w' => e = .returned (.tuple #[.int .u64 (amt (a + b)), .int .i64 (amtE (a + b))]) ∧ w = w' := by
  rcases Int.lt_or_le 18446744073709551615 (a + b) with h | h
  · obtain ⟨e1, e2⟩ := amt_no h
    rw [e1, e2]
    clear e1 e2
    go_enter Try.func91, Try.ntmps91
    go_wp2
    go_ret2
    exact ⟨rfl, rfl⟩
  · obtain ⟨e1, e2⟩ := amt_of h
    rw [e1, e2]
    clear e1 e2
    go_enter Try.func91, Try.ntmps91
    go_wp2
    go_ret2
    exact ⟨rfl, rfl⟩

set_option maxHeartbeats 400000 in
theorem sum (A : Option Addr) (n c : Nat) (zs : List Int) (w : World) (hi : Kk.Ints .u64 w A n zs) (hw : Words zs) (hn : n ≤ 9223372036854775807) :
    Calls Try.prog 44 #[.slice A n c] w fun e w' => e = .returned (.tuple #[.int .u64 (amt (sumTo zs n)), .int .i64 (amtE (sumTo zs n))]) ∧ Kk.Bel w w' := by
  have HW := Lib.hid hw
  clear hw
  have HI := Lib.hid hi
  clear hi
  go_enter Try.func44, Try.ntmps44
  go_wp2_with fail
  go_loopw [4, 5, 6] (fun r e i wr => ∃ k : Nat, k ≤ n ∧ i = .int .i64 k ∧ r = .int .u64 (amt (sumTo zs k)) ∧ e = .int .i64 (amtE (sumTo zs k)) ∧ Kk.Bel w wr) (fun _ _ i _ => n - (intOf i).toNat)
  case atStart => exact ⟨0, Nat.zero_le _, rfl, rfl, rfl, Kk.Bel.refl _⟩
  case round =>
    obtain ⟨k, hk, rfl, rfl, rfl, hb⟩ := hrel
    have hs0 := sumTo0 HW.out k
    rcases Int.lt_or_le 18446744073709551615 (sumTo zs k) with hgt | hle
    · have hend : sumTo zs k ≤ sumTo zs n := sumTo_le HW.out hk
      obtain ⟨e1, e2⟩ := amt_no hgt
      obtain ⟨e3, e4⟩ := amt_no (P := sumTo zs n) (by omega)
      have E3 := Lib.hid e3
      have E4 := Lib.hid e4
      clear e3 e4
      by_cases hkn : k < n
      all_goals
        go_wp2
        go_ret2
        exact ⟨by rw [E3.out, E4.out]; first | rfl | (rw [e1, e2]; rfl), hb⟩
    · obtain ⟨e1, e2⟩ := amt_of hle
      by_cases hkn : k < n
      · obtain ⟨b', o, rfl, hbw, hc⟩ := (HI.out.bel hb).2 (by omega)
        have hck := hc k hkn
        obtain ⟨z0, z1⟩ := HW.out k
        clear hc
        have hcell : wr.cell? ⟨b', o + k, none⟩ = some (.int .u64 (zs.getD k 0)) := hck
        clear hck
        generalize hz : zs.getD k 0 = z at *
        have hstep : sumTo zs (k + 1) = sumTo zs k + z := by rw [← hz]; rfl
        have HS := Lib.hid hstep
        clear hz hstep
        go_wp2_with fail
        refine (add _ _ _ hs0 hle z0 z1).mono ?_
        rintro e w' ⟨rfl, rfl⟩
        go_wp2
        go_roundw
        case rel => exact ⟨k + 1, by omega, by go_num, by rw [HS.out], by rw [HS.out], hb⟩
        case measure => simp [intOf]; omega
      · obtain rfl : k = n := by omega
        have E1 := Lib.hid e1
        have E2 := Lib.hid e2
        clear e1 e2
        go_wp2
        go_ret2
        exact ⟨rfl, hb⟩

end Ref
end Go.Proofs.Ytgdaojbflokmoaa
end

section
/-
  When two arrays of numbers are one.
-/
namespace Go.Proofs.Ytgdaojbflokmoaa
open Go.RowKit Go.Shelf
set_option linter.unusedVariables false
namespace Ki
open Kk

theorem part_int {P : Program} {e : TypeId} {q : IntKind} (hu : P.underlying e = some (.int q)) {xs : Array Value} {i : Nat} {v : Value} (hx : xs[i]? = some v) (w : World) : (part e xs i).run P w = .ok v w := by
  simp [part, isAgg, run_underlying hu, hx]
theorem eqItems_ints {P : Program} (d : Nat) {e : TypeId} {q : IntKind} (hu : P.underlying e = some (.int q)) (A B : List Int) (w : World) : ∀ (is : List Nat), (∀ i ∈ is, i < A.length ∧ i < B.length) →
    (Op.eqItems (d + 1) e 1 (A.map (Value.int q)).toArray (B.map (Value.int q)).toArray is).run P w = .ok (is.all fun i => A.getD i 0 == B.getD i 0) w
  | [], _ => by simp [Op.eqItems]
  | i :: is, h => by
    obtain ⟨ha, hb⟩ := h i (by simp)
    have p1 : (part e (A.map (Value.int q)).toArray (i * 1)).run P w = .ok (.int q (A.getD i 0)) w := part_int hu (by rw [Nat.mul_one, List.getElem?_toArray, List.getElem?_map, List.getElem?_eq_getElem ha, getD_eq _ _ ha]; rfl) w
    have p2 : (part e (B.map (Value.int q)).toArray (i * 1)).run P w = .ok (.int q (B.getD i 0)) w := part_int hu (by rw [Nat.mul_one, List.getElem?_toArray, List.getElem?_map, List.getElem?_eq_getElem hb, getD_eq _ _ hb]; rfl) w
    have p3 := run_equalIn_int (P := P) w d e q q (A.getD i 0) (B.getD i 0) hu
    have ih := eqItems_ints d hu A B w is (fun j hj => h j (List.mem_cons_of_mem _ hj))
    simp only [Op.eqItems, Sem.run_bind, p1, p2, p3, Result.andThen_ok, List.all_cons]
    cases hc : (A.getD i 0 == B.getD i 0)
    · simp
    · simpa using ih
theorem all_eq {A B : List Int} {n : Nat} (ha : A.length = n) (hb : B.length = n) : ((List.range n).all fun i => A.getD i 0 == B.getD i 0) = (A == B) := by
  rw [Bool.eq_iff_iff, List.all_eq_true, beq_iff_eq]
  constructor
  · intro h
    apply List.ext_getElem (ha.trans hb.symm)
    intro i h1 h2
    have := h i (List.mem_range.2 (by omega))
    rw [beq_iff_eq, getD_eq _ _ h1, getD_eq _ _ h2] at this
    exact this
  · rintro rfl i _
    simp
theorem eqIn_ints {P : Program} (d : Nat) {t e : TypeId} {n : Nat} {q : IntKind} {i : TypeInfo} (ht : P.underlying t = some (.array n e)) (hu : P.underlying e = some (.int q)) (hi : P.info? e = some i) (h1 : P.cellsOf e = 1)
    (A B : List Int) (ha : A.length = n) (hb : B.length = n) (w : World) :
    (Op.equalIn (d + 2) t (.agg (A.map (Value.int q)).toArray) (.agg (B.map (Value.int q)).toArray)).run P w = .ok (A == B) w := by
  rw [run_equalIn_array w (d + 1) _ _ ht hi, h1, eqItems_ints d hu A B w _ (fun i hi => by have := List.mem_range.1 hi; omega), all_eq ha hb]
theorem eql_ints {P : Program} {t e : TypeId} {n : Nat} {q : IntKind} {i : TypeInfo} (ht : P.underlying t = some (.array n e)) (hu : P.underlying e = some (.int q)) (hi : P.info? e = some i) (h1 : P.cellsOf e = 1)
    (A B : List Int) (ha : A.length = n) (hb : B.length = n) (w : World) :
    (binOp .eql t (.agg (A.map (Value.int q)).toArray) (.agg (B.map (Value.int q)).toArray)).run P w = .ok (.bool (A == B)) w := by
  simp only [binOp]
  simp [Op.equal, Op.maxDepth, eqIn_ints 9998 ht hu hi h1 A B ha hb w]
theorem neq_ints {P : Program} {t e : TypeId} {n : Nat} {q : IntKind} {i : TypeInfo} (ht : P.underlying t = some (.array n e)) (hu : P.underlying e = some (.int q)) (hi : P.info? e = some i) (h1 : P.cellsOf e = 1)
    (A B : List Int) (ha : A.length = n) (hb : B.length = n) (w : World) :
    (binOp .neq t (.agg (A.map (Value.int q)).toArray) (.agg (B.map (Value.int q)).toArray)).run P w = .ok (.bool (!(A == B))) w := by
  simp only [binOp]
  simp [Op.equal, Op.maxDepth, eqIn_ints 9998 ht hu hi h1 A B ha hb w]

end Ki
end Go.Proofs.Ytgdaojbflokmoaa
end
