/-
  Texts of this claim, put together: KMem, PMem, PFld, PFds, PChk, PCk, PFind, PGet, PSet. What each one says, and under which conditions, stands ahead of it.
-/
import Derived.StillTailTactics
import Derived.BigQuiet
import Derived.Deep.QuietTactic
import Derived.IntWalk
import Derived.BigRegion
import Derived.Shelf.RegionOpen
import Derived.Shelf.Abstract
import Derived.WalkKit
import Derived.RangeFuncNested
import Derived.RangeFuncBound
import Derived.RangeFuncCalls
import Derived.RangeFuncLeaves
import Derived.RangeFuncBox
import Derived.OwnWalkIn
import Derived.TacticsInMore
import Derived.LoopNIn
import Derived.LoopIn
import Derived.Maps.AppendAt
import Derived.Laws.BytesArg
import Derived.Laws.AppendOwnNone
import Derived.WalkSpells
import Derived.LaidEql
import Derived.Deep.MidRow
import Derived.Deep.RegionHeld3
import Derived.Deep.DeepCutAuto
import Derived.Deep.RegionWith
import Derived.Lib.Hide
import Derived.Lib.SlicesS
import Derived.Test.YtkblbcdinibncaaDoorChecked

section
/-
  What a walk says of memory: what was there is as it was; a slice reads as numbers; bytes of one's own; a block, and a range of it. No condition.
-/
namespace Go.Proofs.YtkblbcdinibncaaDoor
open Go.RowKit Go.Shelf
set_option linter.unusedVariables false
attribute [local go_sem] Oper.semAt_some
theorem Tryd.info_u8 : (Tryd.prog.info? 5).map (fun i => (i.zero, i.size, i.bytes)) = some (some (.int .u8 0), 1, 1) := by kernel_rfl
namespace Kk
/-- What was there is as it was. -/
def Bel (a w : World) : Prop := Below a.heap.size a w
theorem Bel.refl (a : World) : Bel a a := Below.refl _ _
theorem Bel.alloc {a w : World} (h : Bel a w) (o : Obj) : Bel a (w.alloc o) := Below.alloc h (Below.size h) o
theorem Bel.drew {a w : World} (h : Bel a w) : Bel a w.drew := Below.drew h
theorem Bel.drewN {a w : World} (h : Bel a w) (n : Nat) : Bel a (w.drewN n) := ⟨h.os, h.tape, h.output, h.size, h.block⟩
theorem Bel.trans {a b c : World} (h : Bel a b) (k : Bel b c) : Bel a c := Below.trans h (Below.mono k (Below.size h))
theorem Bel.set {a w : World} (h : Bel a w) {p : Addr} (hp : a.heap.size ≤ p.block) (u : Value) : Bel a (w.setCell p u) := Below.setCell h hp u
theorem Bel.facts {W w1 : World} (hb : Bel W w1) : (∀ b o, b < W.heap.size → w1.cell? ⟨b, o, none⟩ = W.cell? ⟨b, o, none⟩) ∧ (∀ b o, b < W.heap.size → w1.frozen? ⟨b, o, none⟩ = W.frozen? ⟨b, o, none⟩) :=
  ⟨fun b o h => Below.cell (p := ⟨b, o, none⟩) hb h, fun b o h => Below.frozen (p := ⟨b, o, none⟩) hb h⟩
theorem Bel.grown {a w w' : World} {row : Option Nat} (h : Bel a w) (hg : w.grownBy w' row) (hr : ∀ k, row = some k → a.heap.size ≤ k) : Bel a w' := Below.grown h hg (Below.size h) hr

/-- A slice that reads as the numbers zs (its elements). -/
def Ints (k : IntKind) (w : World) (A : Option Addr) (n : Nat) (zs : List Int) : Prop :=
  zs.length = n ∧ (0 < n → ∃ b o, A = some ⟨b, o, none⟩ ∧ b < w.heap.size ∧ ∀ i, i < n → w.cell? ⟨b, o + i, none⟩ = some (.int k (zs.getD i 0)))
theorem Ints.bel {k : IntKind} {w w' : World} {A : Option Addr} {n : Nat} {zs : List Int} (h : Ints k w A n zs) (hb : Bel w w') : Ints k w' A n zs :=
  ⟨h.1, fun hn => by
    obtain ⟨b, o, e, hlt, hc⟩ := h.2 hn
    exact ⟨b, o, e, Nat.lt_of_lt_of_le hlt (Below.size hb), fun i hi => (Below.cell (p := ⟨b, o + i, none⟩) hb hlt).trans (hc i hi)⟩⟩
theorem Ints.nil_ {k : IntKind} {w : World} {A : Option Addr} : Ints k w A 0 [] := ⟨rfl, fun h => absurd h (by omega)⟩
theorem Ints.cell {k : IntKind} {w : World} {A : Option Addr} {n : Nat} {zs : List Int} (h : Ints k w A n zs) {i : Nat} (hi : i < n) : ∃ b o, A = some ⟨b, o, none⟩ ∧ b < w.heap.size ∧ w.cell? ⟨b, o + i, none⟩ = some (.int k (zs.getD i 0)) := by
  obtain ⟨b, o, e, hlt, hc⟩ := h.2 (by omega)
  exact ⟨b, o, e, hlt, hc i hi⟩

theorem getD_eq (zs : List Int) (i : Nat) (h : i < zs.length) : zs.getD i 0 = zs[i] := by
  rw [List.getD_eq_getElem?_getD, List.getElem?_eq_getElem h]; rfl
theorem getD_part (zs : List Int) (k m i : Nat) (h : i < m) : ((zs.drop k).take m).getD i 0 = zs.getD (k + i) 0 := by
  simp [List.getD_eq_getElem?_getD, h]

/-- A part of a slice. -/
theorem Ints.part {kd : IntKind} {w : World} {A : Option Addr} {n c : Nat} {zs : List Int} (h : Ints kd w A n zs) {k m : Nat} (hk : k + m ≤ n) (hc : n ≤ c) : Ints kd w (if c = k then A else A.map (·.add (k * 1))) m ((zs.drop k).take m) := by
  refine ⟨by have := h.1; simp; omega, fun hm => ?_⟩
  obtain ⟨b, o, rfl, hlt, hcell⟩ := h.2 (by omega)
  rw [if_neg (by omega)]
  refine ⟨b, o + k, ?_, hlt, fun i hi => ?_⟩
  · rw [Nat.mul_one]
    simp only [Option.map_some, Addr.add]
    by_cases h0 : k = 0
    · simp [h0]
    · simp [h0]
  · rw [getD_part _ _ _ _ hi, Nat.add_assoc]
    exact hcell (k + i) (by omega)

/-- A row of the call's own reads as numbers. -/
theorem ints_of_own {kd : IntKind} {w : World} {base : Nat} {e : TypeId} {v : Value} {n : Nat} {zs : List Int} (h : w.ownsRow base e 1 v n (zs.map (Value.int kd))) :
    ∃ A c, v = .slice A n c ∧ Ints kd w A n zs ∧ n ≤ c ∧ c ≤ maxLen := by
  have hl : zs.length = n := by simpa using h.1
  rcases h.2 with ⟨rfl, rfl⟩ | ⟨g, cap, cur, rfl, hb, hg, hnc, hm, r⟩
  · have : zs = [] := List.length_eq_zero_iff.1 hl
    subst this
    exact ⟨none, 0, rfl, Ints.nil_, Nat.le_refl _, Nat.zero_le _⟩
  · refine ⟨_, _, rfl, ⟨hl, fun hn => ⟨g, 0, rfl, ?_, fun i hi => ?_⟩⟩, hnc, hm⟩
    · exact (Array.getElem?_eq_some_iff.1 hg).1
    · have := h.cellAt i (by omega)
      rw [Nat.zero_add, this, List.getElem?_map, List.getElem?_eq_getElem (by omega), List.getD_eq_getElem?_getD, List.getElem?_eq_getElem (by omega)]
      rfl

theorem elem_u8 : Tryd.prog.elem 41 = 5 := by kernel_rfl
theorem slice_lh (A : Option Addr) (n c : Nat) (l h : Int) (w : World) (h0 : 0 ≤ l) (h1 : l ≤ h) (h2 : h ≤ c) :
    (Instr.slice 41 (.slice A n c) (some (.int .i64 l)) (some (.int .i64 h)) none).run Tryd.prog w = .ok (.slice (if c = l.toNat then A else A.map (·.add (l.toNat * 1))) (h.toNat - l.toNat) (c - l.toNat)) w := by
  rw [run_slice_lh (P := Tryd.prog) (w := w) (t := 41) (a := A) (len := n) (cap := c) (by rw [elem_u8]; exact Tryd.underlying41) .i64 .i64 l h h0 h1 h2]
  rw [elem_u8]
  simp [Tryd.sizeOf5, Result.andThen, sliced]
theorem slice_h (A : Option Addr) (n c : Nat) (h : Int) (w : World) (h0 : 0 ≤ h) (h2 : h ≤ c) :
    (Instr.slice 41 (.slice A n c) none (some (.int .i64 h)) none).run Tryd.prog w = .ok (.slice (if c = 0 then A else A.map (·.add (0 * 1))) (h.toNat - 0) (c - 0)) w := by
  rw [run_slice_h (P := Tryd.prog) (w := w) (t := 41) (a := A) (len := n) (cap := c) (by rw [elem_u8]; exact Tryd.underlying41) .i64 h h0 h2]
  rw [elem_u8]
  simp [Tryd.sizeOf5, Result.andThen, sliced]
theorem Bel.grownBy {w w' : World} (h : Bel w w') : w.grownBy w' none := ⟨Below.os h, Below.tape h, Below.output h, Below.size h, fun k hk _ => Below.block h k hk⟩
theorem owns_bel {w w' : World} {base : Nat} {e : TypeId} {size : Nat} {v : Value} {n : Nat} {xs : List Value} (h : w.ownsRow base e size v n xs) (hb : Bel w w') : w'.ownsRow base e size v n xs := by
  refine h.kept (Bel.grownBy hb) ?_
  cases v.ownBlock with
  | none => exact .inl rfl
  | some g => exact .inr (by simp)
theorem owns_mono {w : World} {base base' : Nat} {e : TypeId} {size : Nat} {v : Value} {n : Nat} {xs : List Value} (h : w.ownsRow base e size v n xs) (hb : base' ≤ base) : w.ownsRow base' e size v n xs := by
  refine ⟨h.1, h.2.imp id fun ⟨g, cap, cur, h1, h2, r⟩ => ⟨g, cap, cur, h1, Nat.le_trans hb h2, r⟩⟩

/-- New bytes. -/
def Fresh (w w' : World) (v : Value) (zs : List Int) : Prop := w'.ownsRow w.heap.size 5 1 v zs.length (zs.map (Value.int .u8)) ∧ Bel w w'

theorem one_ok (z : Int) {k : IntKind} : ∀ u ∈ [Value.int k z], u.oneCell' = true := by
  intro u hu
  simp at hu
  subst hu
  rfl
theorem ints_ok (zs : List Int) {k : IntKind} : ∀ u ∈ zs.map (Value.int k), u.oneCell' = true := by
  intro u hu
  obtain ⟨z, _, rfl⟩ := List.mem_map.1 hu
  rfl
/-- The cells of a slice that reads as numbers, as an append takes them. -/
theorem Ints.news {k : IntKind} {w : World} {A : Addr} {n : Nat} {zs : List Int} (h : Ints k w (some A) n zs) : ∀ j u, (zs.map (Value.int k))[j]? = some u → w.cell? (A.add j) = some u := by
  intro j u hj
  have hl := h.1
  have hjn : j < n := by
    rcases Nat.lt_or_ge j n with h' | h'
    · exact h'
    · rw [List.getElem?_eq_none (by simp; omega)] at hj; cases hj
  obtain ⟨b, o, e, _, hc⟩ := h.cell hjn
  injection e with e
  subst e
  rw [List.getElem?_map, List.getElem?_eq_getElem (by omega)] at hj
  rw [getD_eq _ _ (by omega)] at hc
  simp at hj
  subst hj
  rw [← hc]
  unfold Addr.add
  by_cases h0 : j = 0
  · simp [h0]
  · simp [h0]

theorem conv {A : Option Addr} {n c : Nat} {zs : List Int} {w : World} (hi : Ints .u8 w A n zs) : (convert 41 9 (.slice A n c)).run Tryd.prog w = .ok (.string (strOfNums zs)) w := by
  rcases Nat.eq_zero_or_pos n with rfl | hn
  · have : zs = [] := List.length_eq_zero_iff.1 hi.1
    subst this
    cases A with
    | none => exact run_convert_bytes_nil w _ _ Tryd.underlying41 Tryd.underlying5 0 c _ Tryd.underlying9
    | some a =>
      rw [run_convert_bytes_string w _ _ _ _ 0 c Tryd.underlying41 Tryd.underlying5 Tryd.underlying9]
      exact run_bytesToString w a 0 c [] (run_loadCells_list w a [] (fun j v h => by simp at h))
  · obtain ⟨b, o, rfl, _, hc⟩ := hi.2 hn
    exact run_convert_bytes_arg w _ _ Tryd.underlying41 Tryd.underlying5 b o n c zs hi.1 hc _ Tryd.underlying9

theorem same (A B : Option Addr) (n c m d : Nat) (zs : List Int) (w : World) (ha : Ints .u8 w A n zs) (hb : Ints .u8 w B m zs) :
    Calls Tryd.prog 18 #[.slice A n c, .slice B m d] w fun e w' => e = .returned (.bool true) ∧ w = w' := by
  have h1 := conv ha (c := c)
  have h2 := conv hb (c := d)
  clear ha hb
  generalize strOfNums zs = s at *
  go_enter Tryd.func18, Tryd.ntmps18
  go_wp2
  go_ret
  exact ⟨by simp, rfl⟩

/-- A slice of bytes: nil has no room. -/
structure Sl (w : World) (A : Option Addr) (n c : Nat) (zs : List Int) : Prop where
  ints : Ints .u8 w A n zs
  cap : n ≤ c
  nil : A = none → c = 0
theorem Sl.bel {w w' : World} {A : Option Addr} {n c : Nat} {zs : List Int} (h : Sl w A n c zs) (hb : Bel w w') : Sl w' A n c zs := ⟨h.ints.bel hb, h.cap, h.nil⟩
theorem Sl.len {w : World} {A : Option Addr} {n c : Nat} {zs : List Int} (h : Sl w A n c zs) : zs.length = n := h.ints.1
theorem sl_of_own {w : World} {base : Nat} {e : TypeId} {v : Value} {n : Nat} {zs : List Int} (h : w.ownsRow base e 1 v n (zs.map (Value.int .u8))) : ∃ A c, v = .slice A n c ∧ Sl w A n c zs := by
  obtain ⟨A, c, e, hi, hc, _⟩ := ints_of_own h
  refine ⟨A, c, e, hi, hc, ?_⟩
  rintro rfl
  rcases h.2 with ⟨h1, _⟩ | ⟨g, cap, cur, h1, _⟩
  · rw [h1] at e; injection e with _ _ e; exact e.symm
  · rw [h1] at e; injection e with e; cases e
theorem Fresh.sl {w w' : World} {v : Value} {zs : List Int} (h : Fresh w w' v zs) : ∃ A c, v = .slice A zs.length c ∧ Sl w' A zs.length c zs := sl_of_own h.1

theorem wpList_append_sl {w : World} {ops : Array Oper} {rest : List Oper} {o : Oper} {a : Act} {Q : Exit → Act → World → Prop} (hgd : o.guard = none) (s x : Operand)
    (ho : o.op = .call { callee := .builtin .append, args := #[s, x], argTypes := #[41, 41] })
    (base : Nat) (v : Value) (k : Nat) (xs : List Value) (hs : a.eval s = v) (hown : w.ownsRow base 5 1 v k xs) (A : Option Addr) (m c : Nat) (zs : List Int) (hx : a.eval x = .slice A m c) (hi : Sl w A m c zs)
    (hm : k + m ≤ 1000000000000) (hb : base ≤ w.heap.size)
    (h : ∀ v' w', w'.ownsRow base 5 1 v' (k + m) (xs ++ zs.map (Value.int .u8)) → w.grownBy w' v.ownBlock → wpList Tryd.prog ops Q rest (a.put o.dst v') w') : wpList Tryd.prog ops Q (o :: rest) a w := by
  obtain ⟨i0, h1, hz0, hz1, hz2⟩ := info_parts Tryd.info_u8
  cases A with
  | none =>
    obtain rfl : c = 0 := hi.nil rfl
    obtain rfl : m = 0 := by have := hi.cap; omega
    have hz : zs = [] := List.length_eq_zero_iff.1 hi.ints.1
    subst hz
    refine wpList_append_own_none hgd s x 41 ho base 5 i0 1 Tryd.underlying41 h1 v k xs hs hown hx ?_
    exact h v w (by simpa using hown) ⟨rfl, rfl, rfl, Nat.le_refl _, fun _ _ _ => rfl⟩
  | some ad =>
    refine wpList_append_own w hgd s x 41 ho base 5 i0 (.int .u8 0) 1 1 Tryd.underlying41 h1 hz0 hz1 hz2 rfl (by decide) v k xs hs hown ad m c (zs.map (Value.int .u8)) hx (by have := hi.ints.1; simp; omega) (Ints.news hi.ints) (ints_ok zs) (by unfold maxLen; omega) (by omega) hb ?_
    intro v' w' h2 h3 _
    exact h v' w' h2 h3

theorem own_empty (w : World) : (w.alloc (.cells #[] 5)).ownsRow w.heap.size 5 1 (.slice (some ⟨w.heap.size, 0, none⟩) 0 0) 0 [] :=
  World.ownsRow_lit w #[] 0 (Nat.le_refl _) (Nat.zero_le _) rfl


/-- What the call may have turned: the blocks S alone. -/
structure Kep (S : Nat → Prop) (a w : World) : Prop where
  os : w.os = a.os
  tape : w.tape = a.tape
  output : w.output = a.output
  size : a.heap.size ≤ w.heap.size
  block : ∀ k, k < a.heap.size → ¬ S k → w.heap[k]? = a.heap[k]?
theorem Kep.refl (S : Nat → Prop) (a : World) : Kep S a a := ⟨rfl, rfl, rfl, Nat.le_refl _, fun _ _ _ => rfl⟩
theorem Kep.of_bel {S : Nat → Prop} {a w : World} (h : Bel a w) : Kep S a w := ⟨Below.os h, Below.tape h, Below.output h, Below.size h, fun k hk _ => Below.block h k hk⟩
theorem Kep.trans {S : Nat → Prop} {a b c : World} (h : Kep S a b) (k : Kep S b c) : Kep S a c :=
  ⟨k.os.trans h.os, k.tape.trans h.tape, k.output.trans h.output, Nat.le_trans h.size k.size, fun i hi hs => (k.block i (Nat.lt_of_lt_of_le hi h.size) hs).trans (h.block i hi hs)⟩
theorem Kep.mono {S T : Nat → Prop} {a b : World} (h : Kep S a b) (hst : ∀ k, k < a.heap.size → S k → T k) : Kep T a b := ⟨h.os, h.tape, h.output, h.size, fun i hi hs => h.block i hi (fun hS => hs (hst i hi hS))⟩
theorem Kep.grown {S : Nat → Prop} {a w w' : World} {row : Option Nat} (h : Kep S a w) (hg : w.grownBy w' row) (hr : ∀ k, row = some k → k < a.heap.size → S k) : Kep S a w' :=
  ⟨hg.os.trans h.os, hg.tape.trans h.tape, hg.output.trans h.output, Nat.le_trans h.size hg.size, fun i hi hs => (hg.block i (Nat.lt_of_lt_of_le hi h.size) (fun e => hs (hr i e.symm hi))).trans (h.block i hi hs)⟩
theorem Kep.bel {S : Nat → Prop} {a b w : World} (h : Bel a b) (k : Kep S b w) (hs : ∀ k, S k → a.heap.size ≤ k) : Bel a w :=
  ⟨k.os.trans (Below.os h), k.tape.trans (Below.tape h), k.output.trans (Below.output h), Nat.le_trans (Below.size h) k.size, fun i hi => (k.block i (Nat.lt_of_lt_of_le hi (Below.size h)) (fun hS => by have := hs i hS; omega)).trans (Below.block h i hi)⟩
theorem Kep.alloc {S : Nat → Prop} {a w : World} (h : Kep S a w) (o : Obj) : Kep S a (w.alloc o) := h.trans (Kep.of_bel ((Bel.refl w).alloc o))
theorem Kep.drewN {S : Nat → Prop} {a w : World} (h : Kep S a w) (n : Nat) : Kep S a (w.drewN n) := h.trans (Kep.of_bel ((Bel.refl w).drewN n))
theorem Kep.drew {S : Nat → Prop} {a w : World} (h : Kep S a w) : Kep S a w.drew := h.trans (Kep.of_bel ((Bel.refl w).drew))
theorem Kep.set {S : Nat → Prop} {a w : World} (h : Kep S a w) {b o : Nat} (hp : S b) (u : Value) : Kep S a (w.setCell ⟨b, o, none⟩ u) :=
  h.trans ⟨rfl, rfl, rfl, by have := (KeepsWalks.setCell w ⟨b, o, none⟩ u).size; exact this, fun k hk hs => Below.heap_setCell w ⟨b, o, none⟩ u k (fun e => hs (by rw [e]; exact hp))⟩
theorem Kep.cell {S : Nat → Prop} {a w : World} (h : Kep S a w) {b o : Nat} {v : Value} (hs : ¬ S b) (hc : a.cell? ⟨b, o, none⟩ = some v) : w.cell? ⟨b, o, none⟩ = some v :=
  (World.cell?_of_block (w := a) (h.block b (World.block_lt_of_cell? a ⟨b, o, none⟩ hc) hs)).trans hc
theorem Kep.ints {S : Nat → Prop} {k : IntKind} {a w : World} {A : Option Addr} {n : Nat} {zs : List Int} (h : Kep S a w) (hs : ∀ x, A = some x → ¬ S x.block) (hi : Ints k a A n zs) : Ints k w A n zs := by
  refine ⟨hi.1, fun hn => ?_⟩
  obtain ⟨b, o, rfl, hlt, hc⟩ := hi.2 hn
  exact ⟨b, o, rfl, Nat.lt_of_lt_of_le hlt h.size, fun i hin => h.cell (hs _ rfl) (hc i hin)⟩
theorem Kep.owns {S : Nat → Prop} {a w : World} {base : Nat} {e : TypeId} {size : Nat} {v : Value} {n : Nat} {xs : List Value} (h : Kep S a w) (hs : ∀ k, v.ownBlock = some k → ¬ S k) (ho : a.ownsRow base e size v n xs) : w.ownsRow base e size v n xs := by
  refine ⟨ho.1, ho.2.imp id ?_⟩
  rintro ⟨g, cap, cur, rfl, hb, hg, r⟩
  exact ⟨g, cap, cur, rfl, hb, (h.block g (Array.getElem?_eq_some_iff.1 hg).1 (hs g rfl)).trans hg, r⟩

theorem xor_u8 (a b : Int) (w : World) : ∃ z, bits .xor .u8 a b = z := ⟨_, rfl⟩

theorem sl_lit (w : World) (zs : List Int) : Sl (w.alloc (.cells (zs.map (Value.int .u8)).toArray 5)) (some ⟨w.heap.size, 0, none⟩) zs.length zs.length zs := by
  refine ⟨⟨rfl, fun hn => ⟨w.heap.size, 0, rfl, by simp, fun i hi => ?_⟩⟩, Nat.le_refl _, fun h => by cases h⟩
  rw [Nat.zero_add, World.cell?_alloc_new, List.getElem?_toArray, List.getElem?_map, List.getElem?_eq_getElem hi, getD_eq _ _ hi]
  rfl

/-- A block of cells. -/
def Blk (w : World) (b : Nat) (cs : Array Value) (t : TypeId) : Prop := w.heap[b]? = some (.cells cs t (0, 0))
theorem Blk.lt {w : World} {b : Nat} {cs : Array Value} {t : TypeId} (h : Blk w b cs t) : b < w.heap.size := (Array.getElem?_eq_some_iff.1 h).1
theorem Blk.cell {w : World} {b : Nat} {cs : Array Value} {t : TypeId} (h : Blk w b cs t) (i : Nat) {v : Value} (hv : cs[i]? = some v) : w.cell? ⟨b, i, none⟩ = some v := by
  rw [cell_of_row w b i cs t (0, 0) h, hv]
theorem Blk.frozen {w : World} {b : Nat} {cs : Array Value} {t : TypeId} (h : Blk w b cs t) (i : Nat) : w.frozen? ⟨b, i, none⟩ = false := frozen_of_row w b i cs t h
theorem Blk.new (w : World) (cs : Array Value) (t : TypeId) : Blk (w.alloc (.cells cs t)) w.heap.size cs t := World.alloc_heap_new w _
theorem Blk.set {w : World} {b : Nat} {cs : Array Value} {t : TypeId} (h : Blk w b cs t) (i : Nat) (v : Value) : Blk (w.setCell ⟨b, i, none⟩ v) b (cs.setIfInBounds i v) t := heap_setCell_same w b i cs t v h
theorem Blk.other {w : World} {b : Nat} {cs : Array Value} {t : TypeId} (h : Blk w b cs t) {b' : Nat} (hne : b ≠ b') (i : Nat) (v : Value) : Blk (w.setCell ⟨b', i, none⟩ v) b cs t := (heap_setCell_other w ⟨b', i, none⟩ b v hne).trans h
theorem Blk.kep {S : Nat → Prop} {w w' : World} {b : Nat} {cs : Array Value} {t : TypeId} (h : Blk w b cs t) (hk : Kep S w w') (hs : ¬ S b) : Blk w' b cs t := (hk.block b h.lt hs).trans h
theorem Blk.bel {w w' : World} {b : Nat} {cs : Array Value} {t : TypeId} (h : Blk w b cs t) (hk : Bel w w') : Blk w' b cs t := (Below.block hk b h.lt).trans h
theorem Blk.alloc {w : World} {b : Nat} {cs : Array Value} {t : TypeId} (h : Blk w b cs t) (o : Obj) : Blk (w.alloc o) b cs t := h.bel ((Bel.refl w).alloc o)
/-- A row of bytes is no block of another type. -/
theorem Blk.not_row {w : World} {b : Nat} {cs : Array Value} {t e : TypeId} (h : Blk w b cs t) (hte : t ≠ e) {base size k : Nat} {v : Value} {xs : List Value} (hr : w.ownsRow base e size v k xs) : v.ownBlock ≠ some b := by
  rcases hr.2 with ⟨rfl, _⟩ | ⟨g, cap, cur, rfl, _, hgb, _⟩
  · simp [Value.ownBlock]
  · intro e'
    obtain rfl : g = b := by simpa [Value.ownBlock] using e'
    have := (show w.heap[g]? = _ from h).symm.trans hgb
    simp at this
    exact hte this.2
theorem owns_set {w : World} {base : Nat} {e : TypeId} {size : Nat} {v : Value} {n : Nat} {xs : List Value} (ho : w.ownsRow base e size v n xs) {b : Nat} (hne : v.ownBlock ≠ some b) (i : Nat) (u : Value) : (w.setCell ⟨b, i, none⟩ u).ownsRow base e size v n xs := by
  exact Kep.owns (S := fun k => k = b) (Kep.set (S := fun k => k = b) (Kep.refl _ w) (b := b) (o := i) rfl u) (fun k hk e => hne (by rw [hk, e])) ho

theorem Kep.set_self {b : Nat} {a w : World} (h : Kep (fun i => i = b) a w) (o : Nat) (u : Value) : Kep (fun i => i = b) a (w.setCell ⟨b, o, none⟩ u) := Kep.set (S := fun i => i = b) h (b := b) (o := o) rfl u

end Kk
end Go.Proofs.YtkblbcdinibncaaDoor
end

section
/-
  Rows of cells in a block that is known whole, and results that lie in cells. No condition.
-/
namespace Go.Proofs.YtkblbcdinibncaaDoor
open Go.RowKit Go.Shelf
set_option linter.unusedVariables false
namespace Pm
open Kk

def putA (C : Array Value) (o : Nat) : List Value → Array Value
  | [] => C
  | v :: r => putA (C.setIfInBounds o v) (o + 1) r
theorem blk_setCells {b : Nat} {t : TypeId} : ∀ (vs : List Value) (o : Nat) (w : World) (C : Array Value), Blk w b C t → Blk (w.setCells b o vs) b (putA C o vs) t
  | [], _, _, _, h => h
  | v :: r, o, w, C, h => blk_setCells r (o + 1) (w.setCell ⟨b, o, none⟩ v) (C.setIfInBounds o v) (h.set o v)
theorem putA_mid : ∀ (vs mid pre post : List Value), mid.length = vs.length → putA (pre ++ (mid ++ post)).toArray pre.length vs = (pre ++ (vs ++ post)).toArray
  | [], mid, pre, post, h => by
    have : mid = [] := List.length_eq_zero_iff.1 h
    subst this
    rfl
  | v :: r, [], pre, post, h => by cases h
  | v :: r, m :: mid, pre, post, h => by
    have e : (pre ++ (m :: mid ++ post)).toArray.setIfInBounds pre.length v = ((pre ++ [v]) ++ (mid ++ post)).toArray := by
      rw [List.setIfInBounds_toArray, List.set_append_right _ _ (Nat.le_refl _), Nat.sub_self]
      simp
    show putA ((pre ++ (m :: mid ++ post)).toArray.setIfInBounds pre.length v) (pre.length + 1) r = _
    rw [e, show pre.length + 1 = (pre ++ [v]).length by simp, putA_mid r mid (pre ++ [v]) post (by simpa using h)]
    simp
/-- A row stored into the middle. -/
theorem bmid {w : World} {b : Nat} {t : TypeId} {pre mid post vs : List Value} (h : Blk w b (pre ++ (mid ++ post)).toArray t) (hl : mid.length = vs.length) : Blk (w.setCells b pre.length vs) b (pre ++ (vs ++ post)).toArray t := by
  have := blk_setCells vs pre.length w _ h
  rwa [putA_mid vs mid pre post hl] at this
theorem bwhole {w : World} {b : Nat} {t : TypeId} {C : Array Value} {vs : List Value} (h : Blk w b C t) (hl : C.size = vs.length) : Blk (w.setCells b 0 vs) b vs.toArray t := by
  have h2 : Blk w b ([] ++ (C.toList ++ [])).toArray t := by simpa using h
  have := bmid (vs := vs) h2 (by simpa using hl)
  simpa using this
theorem brange {w : World} {b : Nat} {t : TypeId} {pre mid post : List Value} (h : Blk w b (pre ++ (mid ++ post)).toArray t) : w.rangeAt b pre.length mid := fun j v hv => by
  have hj : j < mid.length := (List.getElem?_eq_some_iff.1 hv).1
  refine h.cell _ ?_
  rw [List.getElem?_toArray, List.getElem?_append_right (by omega), Nat.add_sub_cancel_left, List.getElem?_append_left hj]
  exact hv
theorem bthere {w : World} {b : Nat} {t : TypeId} {C : Array Value} (h : Blk w b C t) (o n : Nat) (hn : o + n ≤ C.size) : w.there b o n := fun j hj =>
  ⟨by rw [h.cell (o + j) (Array.getElem?_eq_getElem (by omega))]; rfl, h.frozen _⟩
theorem kep_setCells (b : Nat) : ∀ (vs : List Value) (o : Nat) (w : World), Kep (fun i => i = b) w (w.setCells b o vs) := by
  intro vs
  induction vs with
  | nil => intro o w; exact Kep.refl _ _
  | cons v vs ih => intro o w; exact (Kep.set_self (Kep.refl _ w) o v).trans (ih (o + 1) _)

theorem bel_setCells {w w' : World} (h : Bel w w') {g : Nat} (hg : w.heap.size ≤ g) (o : Nat) (vs : List Value) : Bel w (w'.setCells g o vs) := Kep.bel h (kep_setCells g vs o w') (fun i hi => by rw [hi]; exact hg)
theorem rngB {w : World} {b : Nat} {C : List Value} {t : TypeId} (h : Blk w b C.toArray t) : w.rangeAt b 0 C := fun j u hu => by
  rw [Nat.zero_add]
  exact h.cell j (by rw [List.getElem?_toArray]; exact hu)
theorem rng_bel {w w' : World} {b o : Nat} {Y : List Value} (h : w.rangeAt b o Y) (hb : Bel w w') : w'.rangeAt b o Y := fun i v hv =>
  (Below.cell (p := ⟨b, o + i, none⟩) hb (World.block_lt_of_cell? w _ (h i v hv))).trans (h i v hv)
theorem cell_bel {w w' : World} {b o : Nat} {v : Value} (h : w.cell? ⟨b, o, none⟩ = some v) (hb : Bel w w') : w'.cell? ⟨b, o, none⟩ = some v :=
  (Below.cell (p := ⟨b, o, none⟩) hb (World.block_lt_of_cell? w _ h)).trans h
theorem cell_kep {S : Nat → Prop} {w w' : World} {b o : Nat} {v : Value} (h : w.cell? ⟨b, o, none⟩ = some v) (hb : Kep S w w') (hs : ¬ S b) : w'.cell? ⟨b, o, none⟩ = some v := hb.cell hs h
theorem rng_kep {S : Nat → Prop} {w w' : World} {b o : Nat} {Y : List Value} (h : w.rangeAt b o Y) (hb : Kep S w w') (hs : ¬ S b) : w'.rangeAt b o Y := fun i v hv => hb.cell hs (h i v hv)
theorem res_c {fn : Func} {p : Tmp} {tp : TypeId} (h : fn.results = #[.cell p tp]) (tmps : Array Value) (w : World) (a : Addr) (X : Value)
    (hp : tmps.getD p undef = .pointer (some a)) (hX : (loadVar tp a).run Tryd.prog w = .ok X w) : (results fn tmps).run Tryd.prog w = .ok X w := by
  have hp' : tmps[p]?.getD undef = .pointer (some a) := by simpa using hp
  simp [results, h, hp', asAddr, hX]
theorem res_ci {fn : Func} {p q : Tmp} {tp : TypeId} (h : fn.results = #[.cell p tp, .tmp q]) (tmps : Array Value) (w : World) (a : Addr) (X Y : Value)
    (hp : tmps.getD p undef = .pointer (some a)) (hq : tmps.getD q undef = Y) (hX : (loadVar tp a).run Tryd.prog w = .ok X w) : (results fn tmps).run Tryd.prog w = .ok (.tuple #[X, Y]) w := by
  have hp' : tmps[p]?.getD undef = .pointer (some a) := by simpa using hp
  have hq' : tmps[q]?.getD undef = Y := by simpa using hq
  simp [results, h, hp', hq', asAddr, hX]
theorem res_cc {fn : Func} {p q : Tmp} {tp tq : TypeId} (h : fn.results = #[.cell p tp, .cell q tq]) (tmps : Array Value) (w : World) (a c : Addr) (X Y : Value)
    (hp : tmps.getD p undef = .pointer (some a)) (hq : tmps.getD q undef = .pointer (some c)) (hX : (loadVar tp a).run Tryd.prog w = .ok X w) (hY : (loadVar tq c).run Tryd.prog w = .ok Y w) :
    (results fn tmps).run Tryd.prog w = .ok (.tuple #[X, Y]) w := by
  have hp' : tmps[p]?.getD undef = .pointer (some a) := by simpa using hp
  have hq' : tmps[q]?.getD undef = .pointer (some c) := by simpa using hq
  simp [results, h, hp', hq', asAddr, hX, hY]
theorem load_b {w : World} {b : Nat} {C : List Value} {t : TypeId} (h : Blk w b C.toArray t) {d : TypeDesc} (hu : Tryd.prog.underlying t = some d) (hd : d.isRow = true) (hi : (Tryd.prog.info? t).map (·.size) = some C.length) :
    (loadVar t ⟨b, 0, none⟩).run Tryd.prog w = .ok (.agg C.toArray) w := run_loadVar_mid (P := Tryd.prog) _ _ _ t C _ (rngB h) hu hd hi
end Pm
end Go.Proofs.YtkblbcdinibncaaDoor
end

section
/-
  What the fields of a record of params are in this program: what number makes, and what the two closures answer.
  Conditions: the record lies in memory; a number that is set is below 2^64.
-/
namespace Go.Proofs.YtkblbcdinibncaaDoor
open Go.RowKit Go.Shelf
set_option linter.unusedVariables false
namespace Pm
open Kk

/-- A field as a value: its name, its bounds, and two closures over the box c. -/
def fldC (s : ByteArray) (a b : Int) (g t c : Nat) : List Value := [.string s, .int .u64 a, .int .u64 b, .func (.func g) #[] #[.pointer (some ⟨c, 0, none⟩)], .func (.func t) #[] #[.pointer (some ⟨c, 0, none⟩)]]
theorem fldC_cells (s : ByteArray) (a b : Int) (g t c : Nat) : ∀ u ∈ fldC s a b g t c, u.oneCell' = true := by
  intro u hu
  simp [fldC] at hu
  rcases hu with rfl | rfl | rfl | rfl | rfl <;> rfl
theorem info_fld : (Tryd.prog.info? 62).map (·.size) = some 5 := by kernel_rfl
/-- A field was made, for the place x. -/
def Fmade (s : ByteArray) (a b : Int) (g t : Nat) (x : Addr) (w : World) (e : Ending) (w' : World) : Prop :=
  ∃ c, e = .returned (.agg #[.string s, .int .u64 a, .int .u64 b, .func (.func g) #[] #[.pointer (some ⟨c, 0, none⟩)], .func (.func t) #[] #[.pointer (some ⟨c, 0, none⟩)]]) ∧ w'.cell? ⟨c, 0, none⟩ = some (.pointer (some x)) ∧ w.heap.size ≤ c ∧ c < w'.heap.size ∧ Bel w w'

set_option maxRecDepth 100000 in
set_option maxHeartbeats 1000000 in
theorem numI (s : ByteArray) (a b : Int) (x : Addr) (w : World) : Calls Tryd.prog 39 #[.string s, .int .u64 a, .int .u64 b, .pointer (some x)] w (Fmade s a b 54 55 x w) := by
  have w2 := Blk.new (w.alloc (.cells #[.pointer (some x)] 87)) #[.string ⟨#[]⟩, .int .u64 0, .int .u64 0, .nilFunc, .nilFunc] 62
  rw [World.size_alloc] at w2
  have W2 := Lib.hid w2
  clear w2
  have W1 := Lib.hid ((Blk.new w #[.pointer (some x)] 87).alloc (.cells #[.string ⟨#[]⟩, .int .u64 0, .int .u64 0, .nilFunc, .nilFunc] 62))
  go_enter Tryd.func39, Tryd.ntmps39
  go_wp2_with (refine wpList_store_mid rfl 62 (.tmp 8) (.tmp 14) rfl (w.heap.size + 1) 0 (fldC s a b 54 55 w.heap.size).toArray rfl rfl (bthere W2.out 0 5 (Nat.le_refl _)) info_fld (all_oneCell_toArray (fldC_cells _ _ _ _ _ _)) ?_)
  have h3 := bwhole (vs := fldC s a b 54 55 w.heap.size) W2.out rfl
  have h4 := kep_setCells (w.heap.size + 1) (fldC s a b 54 55 w.heap.size) 0 ((w.alloc (.cells #[.pointer (some x)] 87)).alloc (.cells #[.string ⟨#[]⟩, .int .u64 0, .int .u64 0, .nilFunc, .nilFunc] 62))
  refine bodyPost_ret (res_c Tryd.results39 _ _ ⟨w.heap.size + 1, 0, none⟩ (.agg (fldC s a b 54 55 w.heap.size).toArray) rfl (load_b h3 Tryd.underlying62 rfl info_fld)) rfl ⟨w.heap.size, rfl, ?_, Nat.le_refl _, ?_, ?_⟩
  · exact (W1.out.kep h4 (by omega)).cell 0 rfl
  · exact Nat.lt_of_lt_of_le (by simp; omega) h4.size
  · exact bel_setCells (((Bel.refl w).alloc _).alloc _) (Nat.le_succ _) 0 _

set_option maxRecDepth 100000 in
set_option maxHeartbeats 1000000 in
/-- What the first closure answers: the number that lies there, as a word. -/
theorem getI (c b o : Nat) (v : Int) (w : World) (hc : w.cell? ⟨c, 0, none⟩ = some (.pointer (some ⟨b, o, none⟩))) (hv : w.cell? ⟨b, o, none⟩ = some (.int .i64 v)) :
    Calls Tryd.prog 54 #[.pointer (some ⟨c, 0, none⟩)] w fun e w' => e = .returned (.int .u64 (IntKind.u64.wrap v)) ∧ w = w' := by
  go_enter Tryd.func54, Tryd.ntmps54
  go_wp2
  go_ret
  exact ⟨rfl, rfl⟩

set_option maxRecDepth 100000 in
set_option maxHeartbeats 1000000 in
/-- What the second closure does: the number is laid there. -/
theorem setI (c b o : Nat) (v n : Int) (w : World) (hc : w.cell? ⟨c, 0, none⟩ = some (.pointer (some ⟨b, o, none⟩))) (hv : w.cell? ⟨b, o, none⟩ = some (.int .i64 v)) (hf : w.frozen? ⟨b, o, none⟩ = false) :
    Calls Tryd.prog 55 #[.int .u64 n, .pointer (some ⟨c, 0, none⟩)] w fun e w' => e = .returned (.tuple #[]) ∧ w' = w.setCell ⟨b, o, none⟩ (.int .i64 (wrap64 n)) := by
  go_enter Tryd.func55, Tryd.ntmps55
  go_wp2
  go_end0
  exact ⟨rfl, rfl⟩

set_option maxRecDepth 100000 in
set_option maxHeartbeats 1000000 in
theorem numU (s : ByteArray) (a b : Int) (x : Addr) (w : World) : Calls Tryd.prog 40 #[.string s, .int .u64 a, .int .u64 b, .pointer (some x)] w (Fmade s a b 56 57 x w) := by
  have w2 := Blk.new (w.alloc (.cells #[.pointer (some x)] 89)) #[.string ⟨#[]⟩, .int .u64 0, .int .u64 0, .nilFunc, .nilFunc] 62
  rw [World.size_alloc] at w2
  have W2 := Lib.hid w2
  clear w2
  have W1 := Lib.hid ((Blk.new w #[.pointer (some x)] 89).alloc (.cells #[.string ⟨#[]⟩, .int .u64 0, .int .u64 0, .nilFunc, .nilFunc] 62))
  go_enter Tryd.func40, Tryd.ntmps40
  go_wp2_with (refine wpList_store_mid rfl 62 (.tmp 8) (.tmp 14) rfl (w.heap.size + 1) 0 (fldC s a b 56 57 w.heap.size).toArray rfl rfl (bthere W2.out 0 5 (Nat.le_refl _)) info_fld (all_oneCell_toArray (fldC_cells _ _ _ _ _ _)) ?_)
  have h3 := bwhole (vs := fldC s a b 56 57 w.heap.size) W2.out rfl
  have h4 := kep_setCells (w.heap.size + 1) (fldC s a b 56 57 w.heap.size) 0 ((w.alloc (.cells #[.pointer (some x)] 89)).alloc (.cells #[.string ⟨#[]⟩, .int .u64 0, .int .u64 0, .nilFunc, .nilFunc] 62))
  refine bodyPost_ret (res_c Tryd.results40 _ _ ⟨w.heap.size + 1, 0, none⟩ (.agg (fldC s a b 56 57 w.heap.size).toArray) rfl (load_b h3 Tryd.underlying62 rfl info_fld)) rfl ⟨w.heap.size, rfl, ?_, Nat.le_refl _, ?_, ?_⟩
  · exact (W1.out.kep h4 (by omega)).cell 0 rfl
  · exact Nat.lt_of_lt_of_le (by simp; omega) h4.size
  · exact bel_setCells (((Bel.refl w).alloc _).alloc _) (Nat.le_succ _) 0 _

set_option maxRecDepth 100000 in
set_option maxHeartbeats 1000000 in
/-- What the first closure answers: the number that lies there, as a word. -/
theorem getU (c b o : Nat) (v : Int) (w : World) (hc : w.cell? ⟨c, 0, none⟩ = some (.pointer (some ⟨b, o, none⟩))) (hv : w.cell? ⟨b, o, none⟩ = some (.int .u64 v)) :
    Calls Tryd.prog 56 #[.pointer (some ⟨c, 0, none⟩)] w fun e w' => e = .returned (.int .u64 v) ∧ w = w' := by
  go_enter Tryd.func56, Tryd.ntmps56
  go_wp2
  go_ret
  exact ⟨rfl, rfl⟩

set_option maxRecDepth 100000 in
set_option maxHeartbeats 1000000 in
/-- What the second closure does: the number is laid there. -/
theorem setU (c b o : Nat) (v n : Int) (w : World) (hc : w.cell? ⟨c, 0, none⟩ = some (.pointer (some ⟨b, o, none⟩))) (hv : w.cell? ⟨b, o, none⟩ = some (.int .u64 v)) (hf : w.frozen? ⟨b, o, none⟩ = false) :
    Calls Tryd.prog 57 #[.int .u64 n, .pointer (some ⟨c, 0, none⟩)] w fun e w' => e = .returned (.tuple #[]) ∧ w' = w.setCell ⟨b, o, none⟩ (.int .u64 n) := by
  go_enter Tryd.func57, Tryd.ntmps57
  go_wp2
  go_end0
  exact ⟨rfl, rfl⟩

end Pm
end Go.Proofs.YtkblbcdinibncaaDoor
end

section
/-
  What params.fields answers in this program: the list of all eleven fields of a record that lies in memory. No condition.
-/
namespace Go.Proofs.YtkblbcdinibncaaDoor
open Go.RowKit Go.Shelf
set_option linter.unusedVariables false
namespace Pm
open Kk

def nms : List ByteArray := [⟨#[117, 110, 98, 111, 110, 100, 105, 110, 103]⟩, ⟨#[109, 97, 120, 97, 103, 101]⟩, ⟨#[101, 112, 111, 99, 104, 108, 101, 110]⟩, ⟨#[119, 105, 110, 100, 111, 119]⟩, ⟨#[101, 110, 116, 114, 105, 101, 115]⟩, ⟨#[109, 97, 120, 97, 99, 116, 105, 118, 101]⟩, ⟨#[106, 97, 105, 108, 116, 105, 109, 101]⟩, ⟨#[98, 97, 115, 101]⟩, ⟨#[109, 117, 108, 116]⟩, ⟨#[99, 111, 114, 114, 119, 105, 110, 100, 111, 119]⟩, ⟨#[114, 101, 119, 97, 114, 100]⟩]
def los : List Int := [1, 0, 1, 1, 1, 1, 1, 0, 0, 1, 0]
def his : List Int := [1048576, 1048576, 1000, 256, 16, 32, 1048576, 1000000000, 1000, 1048576, 1000000000]
def gfs : List Nat := [54, 54, 54, 54, 54, 54, 54, 56, 56, 54, 56]
def sfs : List Nat := [55, 55, 55, 55, 55, 55, 55, 57, 57, 55, 57]
def nm (i : Nat) : ByteArray := nms.getD i ⟨#[]⟩
def lo (i : Nat) : Int := los.getD i 0
def hi (i : Nat) : Int := his.getD i 0
def gf (i : Nat) : Nat := gfs.getD i 0
def sf (i : Nat) : Nat := sfs.getD i 0
theorem rng5 {w : World} {b : Nat} {C : Array Value} {t : TypeId} (h : Blk w b C t) (o : Nat) (v0 v1 v2 v3 v4 : Value) (h0 : C[o]? = some v0) (h1 : C[o + 1]? = some v1) (h2 : C[o + 2]? = some v2) (h3 : C[o + 3]? = some v3) (h4 : C[o + 4]? = some v4) : w.rangeAt b o [v0, v1, v2, v3, v4] := fun j u hu => by
  match j, hu with
  | 0, hu => obtain rfl : v0 = u := by simpa using hu
             exact h.cell _ h0
  | 1, hu => obtain rfl : v1 = u := by simpa using hu
             exact h.cell _ h1
  | 2, hu => obtain rfl : v2 = u := by simpa using hu
             exact h.cell _ h2
  | 3, hu => obtain rfl : v3 = u := by simpa using hu
             exact h.cell _ h3
  | 4, hu => obtain rfl : v4 = u := by simpa using hu
             exact h.cell _ h4
  | n + 5, hu => simp at hu
/-- The list of the fields of the record that lies in the block p: in the block b, and nothing of it below n. -/
structure Fds (n : Nat) (w : World) (b p : Nat) : Prop where
  lt : b < w.heap.size
  new : n ≤ b
  all : ∀ i, i < 11 → ∃ c, w.rangeAt b (i * 5) (fldC (nm i) (lo i) (hi i) (gf i) (sf i) c) ∧ w.cell? ⟨c, 0, none⟩ = some (.pointer (some ⟨p, i, none⟩)) ∧ n ≤ c
theorem Fds.bel {n : Nat} {w w' : World} {b p : Nat} (h : Fds n w b p) (hb : Bel w w') : Fds n w' b p :=
  ⟨Nat.lt_of_lt_of_le h.lt (Below.size hb), h.new, fun i hi => by
    obtain ⟨c, h1, h2, h3⟩ := h.all i hi
    exact ⟨c, rng_bel h1 hb, cell_bel h2 hb, h3⟩⟩
theorem Fds.kep {S : Nat → Prop} {n : Nat} {w w' : World} {b p : Nat} (h : Fds n w b p) (hb : Kep S w w') (hs : ∀ k, S k → k < n) : Fds n w' b p :=
  ⟨Nat.lt_of_lt_of_le h.lt hb.size, h.new, fun i hi => by
    obtain ⟨c, h1, h2, h3⟩ := h.all i hi
    exact ⟨c, rng_kep h1 hb (fun k => by have := hs _ k; have := h.new; omega), cell_kep h2 hb (fun k => by have := hs _ k; omega), h3⟩⟩
def FdsE (p : Nat) (w : World) (e : Ending) (w' : World) : Prop := ∃ b, e = .returned (.slice (some ⟨b, 0, none⟩) 11 11) ∧ Fds w.heap.size w' b p ∧ Bel w w'
set_option maxRecDepth 100000 in
set_option maxHeartbeats 4000000 in
theorem fieldsR (p : Nat) (w : World) : Calls Tryd.prog 24 #[.pointer (some ⟨p, 0, none⟩)] w (FdsE p w) := by
  go_enter Tryd.func24, Tryd.ntmps24
  go_upto_region 1 with fail
  refine wp_region_held_drew (S := fun W => Bel w W) (by kernel_rfl) ((Bel.refl w).drew) (fun hS0 => ?_)
  refine wpAnyH_take (i := 0) (oi := { dst := some 3, op := .move (.tmp 0), type := 58, pos := "fields.go:18", after := #[], guard := none }) (v := .pointer (some ⟨p, 0, none⟩)) rfl (by kernel_rfl) (by kernel_rfl) (by kernel_rfl) (fun _ _ _ h => h) (Or.inl ⟨by rfl, by intro w hSw; clear hSw; go_simp⟩) hS0 ?_
  try simp only [Act.put, List.setIfInBounds_toArray, List.set_cons_zero, List.set_cons_succ]
  refine wpAnyH_take (i := 1) (oi := { dst := some 4, op := Op.nilCheck (.tmp 3), type := 0, pos := "fields.go:18", after := #[{ on := 0, ground := .data }], guard := none }) (v := .pointer (some ⟨p, 0, none⟩)) rfl (by kernel_rfl) (by kernel_rfl) (by kernel_rfl) (fun _ _ _ h => h) (Or.inl ⟨by rfl, by intro w hSw; clear hSw; go_simp⟩) hS0 ?_
  try simp only [Act.put, List.setIfInBounds_toArray, List.set_cons_zero, List.set_cons_succ]
  refine wpAnyH_take (i := 2) (oi := { dst := some 5, op := .fieldAddr 26 (.tmp 4) 0, type := 0, pos := "fields.go:18", after := #[{ on := 1, ground := .data }], guard := none }) (v := .pointer (some ⟨p, 0, none⟩)) rfl (by kernel_rfl) (by kernel_rfl) (by kernel_rfl) (fun _ _ _ h => h) (Or.inl ⟨by rfl, by intro w hSw; clear hSw; go_simp⟩) hS0 ?_
  try simp only [Act.put, List.setIfInBounds_toArray, List.set_cons_zero, List.set_cons_succ]
  refine wpAnyH_take (i := 4) (oi := { dst := some 7, op := .move (.tmp 0), type := 58, pos := "fields.go:18", after := #[], guard := none }) (v := .pointer (some ⟨p, 0, none⟩)) rfl (by kernel_rfl) (by kernel_rfl) (by kernel_rfl) (fun _ _ _ h => h) (Or.inl ⟨by rfl, by intro w hSw; clear hSw; go_simp⟩) hS0 ?_
  try simp only [Act.put, List.setIfInBounds_toArray, List.set_cons_zero, List.set_cons_succ]
  refine wpAnyH_take (i := 5) (oi := { dst := some 8, op := Op.nilCheck (.tmp 7), type := 0, pos := "fields.go:18", after := #[{ on := 4, ground := .data }], guard := none }) (v := .pointer (some ⟨p, 0, none⟩)) rfl (by kernel_rfl) (by kernel_rfl) (by kernel_rfl) (fun _ _ _ h => h) (Or.inl ⟨by rfl, by intro w hSw; clear hSw; go_simp⟩) hS0 ?_
  try simp only [Act.put, List.setIfInBounds_toArray, List.set_cons_zero, List.set_cons_succ]
  refine wpAnyH_take (i := 6) (oi := { dst := some 9, op := .fieldAddr 26 (.tmp 8) 1, type := 0, pos := "fields.go:18", after := #[{ on := 5, ground := .data }], guard := none }) (v := .pointer (some ⟨p, 1, none⟩)) rfl (by kernel_rfl) (by kernel_rfl) (by kernel_rfl) (fun _ _ _ h => h) (Or.inl ⟨by rfl, by intro w hSw; clear hSw; go_simp⟩) hS0 ?_
  try simp only [Act.put, List.setIfInBounds_toArray, List.set_cons_zero, List.set_cons_succ]
  refine wpAnyH_take (i := 8) (oi := { dst := some 11, op := .move (.tmp 0), type := 58, pos := "fields.go:18", after := #[], guard := none }) (v := .pointer (some ⟨p, 0, none⟩)) rfl (by kernel_rfl) (by kernel_rfl) (by kernel_rfl) (fun _ _ _ h => h) (Or.inl ⟨by rfl, by intro w hSw; clear hSw; go_simp⟩) hS0 ?_
  try simp only [Act.put, List.setIfInBounds_toArray, List.set_cons_zero, List.set_cons_succ]
  refine wpAnyH_take (i := 9) (oi := { dst := some 12, op := Op.nilCheck (.tmp 11), type := 0, pos := "fields.go:18", after := #[{ on := 8, ground := .data }], guard := none }) (v := .pointer (some ⟨p, 0, none⟩)) rfl (by kernel_rfl) (by kernel_rfl) (by kernel_rfl) (fun _ _ _ h => h) (Or.inl ⟨by rfl, by intro w hSw; clear hSw; go_simp⟩) hS0 ?_
  try simp only [Act.put, List.setIfInBounds_toArray, List.set_cons_zero, List.set_cons_succ]
  refine wpAnyH_take (i := 10) (oi := { dst := some 13, op := .fieldAddr 26 (.tmp 12) 2, type := 0, pos := "fields.go:18", after := #[{ on := 9, ground := .data }], guard := none }) (v := .pointer (some ⟨p, 2, none⟩)) rfl (by kernel_rfl) (by kernel_rfl) (by kernel_rfl) (fun _ _ _ h => h) (Or.inl ⟨by rfl, by intro w hSw; clear hSw; go_simp⟩) hS0 ?_
  try simp only [Act.put, List.setIfInBounds_toArray, List.set_cons_zero, List.set_cons_succ]
  refine wpAnyH_take (i := 12) (oi := { dst := some 15, op := .move (.tmp 0), type := 58, pos := "fields.go:18", after := #[], guard := none }) (v := .pointer (some ⟨p, 0, none⟩)) rfl (by kernel_rfl) (by kernel_rfl) (by kernel_rfl) (fun _ _ _ h => h) (Or.inl ⟨by rfl, by intro w hSw; clear hSw; go_simp⟩) hS0 ?_
  try simp only [Act.put, List.setIfInBounds_toArray, List.set_cons_zero, List.set_cons_succ]
  refine wpAnyH_take (i := 13) (oi := { dst := some 16, op := Op.nilCheck (.tmp 15), type := 0, pos := "fields.go:18", after := #[{ on := 12, ground := .data }], guard := none }) (v := .pointer (some ⟨p, 0, none⟩)) rfl (by kernel_rfl) (by kernel_rfl) (by kernel_rfl) (fun _ _ _ h => h) (Or.inl ⟨by rfl, by intro w hSw; clear hSw; go_simp⟩) hS0 ?_
  try simp only [Act.put, List.setIfInBounds_toArray, List.set_cons_zero, List.set_cons_succ]
  refine wpAnyH_take (i := 14) (oi := { dst := some 17, op := .fieldAddr 26 (.tmp 16) 3, type := 0, pos := "fields.go:18", after := #[{ on := 13, ground := .data }], guard := none }) (v := .pointer (some ⟨p, 3, none⟩)) rfl (by kernel_rfl) (by kernel_rfl) (by kernel_rfl) (fun _ _ _ h => h) (Or.inl ⟨by rfl, by intro w hSw; clear hSw; go_simp⟩) hS0 ?_
  try simp only [Act.put, List.setIfInBounds_toArray, List.set_cons_zero, List.set_cons_succ]
  refine wpAnyH_take (i := 16) (oi := { dst := some 19, op := .move (.tmp 0), type := 58, pos := "fields.go:18", after := #[], guard := none }) (v := .pointer (some ⟨p, 0, none⟩)) rfl (by kernel_rfl) (by kernel_rfl) (by kernel_rfl) (fun _ _ _ h => h) (Or.inl ⟨by rfl, by intro w hSw; clear hSw; go_simp⟩) hS0 ?_
  try simp only [Act.put, List.setIfInBounds_toArray, List.set_cons_zero, List.set_cons_succ]
  refine wpAnyH_take (i := 17) (oi := { dst := some 20, op := Op.nilCheck (.tmp 19), type := 0, pos := "fields.go:18", after := #[{ on := 16, ground := .data }], guard := none }) (v := .pointer (some ⟨p, 0, none⟩)) rfl (by kernel_rfl) (by kernel_rfl) (by kernel_rfl) (fun _ _ _ h => h) (Or.inl ⟨by rfl, by intro w hSw; clear hSw; go_simp⟩) hS0 ?_
  try simp only [Act.put, List.setIfInBounds_toArray, List.set_cons_zero, List.set_cons_succ]
  refine wpAnyH_take (i := 18) (oi := { dst := some 21, op := .fieldAddr 26 (.tmp 20) 4, type := 0, pos := "fields.go:18", after := #[{ on := 17, ground := .data }], guard := none }) (v := .pointer (some ⟨p, 4, none⟩)) rfl (by kernel_rfl) (by kernel_rfl) (by kernel_rfl) (fun _ _ _ h => h) (Or.inl ⟨by rfl, by intro w hSw; clear hSw; go_simp⟩) hS0 ?_
  try simp only [Act.put, List.setIfInBounds_toArray, List.set_cons_zero, List.set_cons_succ]
  refine wpAnyH_take (i := 20) (oi := { dst := some 23, op := .move (.tmp 0), type := 58, pos := "fields.go:18", after := #[], guard := none }) (v := .pointer (some ⟨p, 0, none⟩)) rfl (by kernel_rfl) (by kernel_rfl) (by kernel_rfl) (fun _ _ _ h => h) (Or.inl ⟨by rfl, by intro w hSw; clear hSw; go_simp⟩) hS0 ?_
  try simp only [Act.put, List.setIfInBounds_toArray, List.set_cons_zero, List.set_cons_succ]
  refine wpAnyH_take (i := 21) (oi := { dst := some 24, op := Op.nilCheck (.tmp 23), type := 0, pos := "fields.go:18", after := #[{ on := 20, ground := .data }], guard := none }) (v := .pointer (some ⟨p, 0, none⟩)) rfl (by kernel_rfl) (by kernel_rfl) (by kernel_rfl) (fun _ _ _ h => h) (Or.inl ⟨by rfl, by intro w hSw; clear hSw; go_simp⟩) hS0 ?_
  try simp only [Act.put, List.setIfInBounds_toArray, List.set_cons_zero, List.set_cons_succ]
  refine wpAnyH_take (i := 22) (oi := { dst := some 25, op := .fieldAddr 26 (.tmp 24) 5, type := 0, pos := "fields.go:18", after := #[{ on := 21, ground := .data }], guard := none }) (v := .pointer (some ⟨p, 5, none⟩)) rfl (by kernel_rfl) (by kernel_rfl) (by kernel_rfl) (fun _ _ _ h => h) (Or.inl ⟨by rfl, by intro w hSw; clear hSw; go_simp⟩) hS0 ?_
  try simp only [Act.put, List.setIfInBounds_toArray, List.set_cons_zero, List.set_cons_succ]
  refine wpAnyH_take (i := 24) (oi := { dst := some 27, op := .move (.tmp 0), type := 58, pos := "fields.go:18", after := #[], guard := none }) (v := .pointer (some ⟨p, 0, none⟩)) rfl (by kernel_rfl) (by kernel_rfl) (by kernel_rfl) (fun _ _ _ h => h) (Or.inl ⟨by rfl, by intro w hSw; clear hSw; go_simp⟩) hS0 ?_
  try simp only [Act.put, List.setIfInBounds_toArray, List.set_cons_zero, List.set_cons_succ]
  refine wpAnyH_take (i := 25) (oi := { dst := some 28, op := Op.nilCheck (.tmp 27), type := 0, pos := "fields.go:18", after := #[{ on := 24, ground := .data }], guard := none }) (v := .pointer (some ⟨p, 0, none⟩)) rfl (by kernel_rfl) (by kernel_rfl) (by kernel_rfl) (fun _ _ _ h => h) (Or.inl ⟨by rfl, by intro w hSw; clear hSw; go_simp⟩) hS0 ?_
  try simp only [Act.put, List.setIfInBounds_toArray, List.set_cons_zero, List.set_cons_succ]
  refine wpAnyH_take (i := 26) (oi := { dst := some 29, op := .fieldAddr 26 (.tmp 28) 6, type := 0, pos := "fields.go:18", after := #[{ on := 25, ground := .data }], guard := none }) (v := .pointer (some ⟨p, 6, none⟩)) rfl (by kernel_rfl) (by kernel_rfl) (by kernel_rfl) (fun _ _ _ h => h) (Or.inl ⟨by rfl, by intro w hSw; clear hSw; go_simp⟩) hS0 ?_
  try simp only [Act.put, List.setIfInBounds_toArray, List.set_cons_zero, List.set_cons_succ]
  refine wpAnyH_take (i := 28) (oi := { dst := some 31, op := .move (.tmp 0), type := 58, pos := "fields.go:18", after := #[], guard := none }) (v := .pointer (some ⟨p, 0, none⟩)) rfl (by kernel_rfl) (by kernel_rfl) (by kernel_rfl) (fun _ _ _ h => h) (Or.inl ⟨by rfl, by intro w hSw; clear hSw; go_simp⟩) hS0 ?_
  try simp only [Act.put, List.setIfInBounds_toArray, List.set_cons_zero, List.set_cons_succ]
  refine wpAnyH_take (i := 29) (oi := { dst := some 32, op := Op.nilCheck (.tmp 31), type := 0, pos := "fields.go:18", after := #[{ on := 28, ground := .data }], guard := none }) (v := .pointer (some ⟨p, 0, none⟩)) rfl (by kernel_rfl) (by kernel_rfl) (by kernel_rfl) (fun _ _ _ h => h) (Or.inl ⟨by rfl, by intro w hSw; clear hSw; go_simp⟩) hS0 ?_
  try simp only [Act.put, List.setIfInBounds_toArray, List.set_cons_zero, List.set_cons_succ]
  refine wpAnyH_take (i := 30) (oi := { dst := some 33, op := .fieldAddr 26 (.tmp 32) 7, type := 0, pos := "fields.go:18", after := #[{ on := 29, ground := .data }], guard := none }) (v := .pointer (some ⟨p, 7, none⟩)) rfl (by kernel_rfl) (by kernel_rfl) (by kernel_rfl) (fun _ _ _ h => h) (Or.inl ⟨by rfl, by intro w hSw; clear hSw; go_simp⟩) hS0 ?_
  try simp only [Act.put, List.setIfInBounds_toArray, List.set_cons_zero, List.set_cons_succ]
  refine wpAnyH_take (i := 32) (oi := { dst := some 35, op := .move (.tmp 0), type := 58, pos := "fields.go:18", after := #[], guard := none }) (v := .pointer (some ⟨p, 0, none⟩)) rfl (by kernel_rfl) (by kernel_rfl) (by kernel_rfl) (fun _ _ _ h => h) (Or.inl ⟨by rfl, by intro w hSw; clear hSw; go_simp⟩) hS0 ?_
  try simp only [Act.put, List.setIfInBounds_toArray, List.set_cons_zero, List.set_cons_succ]
  refine wpAnyH_take (i := 33) (oi := { dst := some 36, op := Op.nilCheck (.tmp 35), type := 0, pos := "fields.go:18", after := #[{ on := 32, ground := .data }], guard := none }) (v := .pointer (some ⟨p, 0, none⟩)) rfl (by kernel_rfl) (by kernel_rfl) (by kernel_rfl) (fun _ _ _ h => h) (Or.inl ⟨by rfl, by intro w hSw; clear hSw; go_simp⟩) hS0 ?_
  try simp only [Act.put, List.setIfInBounds_toArray, List.set_cons_zero, List.set_cons_succ]
  refine wpAnyH_take (i := 34) (oi := { dst := some 37, op := .fieldAddr 26 (.tmp 36) 8, type := 0, pos := "fields.go:18", after := #[{ on := 33, ground := .data }], guard := none }) (v := .pointer (some ⟨p, 8, none⟩)) rfl (by kernel_rfl) (by kernel_rfl) (by kernel_rfl) (fun _ _ _ h => h) (Or.inl ⟨by rfl, by intro w hSw; clear hSw; go_simp⟩) hS0 ?_
  try simp only [Act.put, List.setIfInBounds_toArray, List.set_cons_zero, List.set_cons_succ]
  refine wpAnyH_take (i := 36) (oi := { dst := some 39, op := .move (.tmp 0), type := 58, pos := "fields.go:18", after := #[], guard := none }) (v := .pointer (some ⟨p, 0, none⟩)) rfl (by kernel_rfl) (by kernel_rfl) (by kernel_rfl) (fun _ _ _ h => h) (Or.inl ⟨by rfl, by intro w hSw; clear hSw; go_simp⟩) hS0 ?_
  try simp only [Act.put, List.setIfInBounds_toArray, List.set_cons_zero, List.set_cons_succ]
  refine wpAnyH_take (i := 37) (oi := { dst := some 40, op := Op.nilCheck (.tmp 39), type := 0, pos := "fields.go:18", after := #[{ on := 36, ground := .data }], guard := none }) (v := .pointer (some ⟨p, 0, none⟩)) rfl (by kernel_rfl) (by kernel_rfl) (by kernel_rfl) (fun _ _ _ h => h) (Or.inl ⟨by rfl, by intro w hSw; clear hSw; go_simp⟩) hS0 ?_
  try simp only [Act.put, List.setIfInBounds_toArray, List.set_cons_zero, List.set_cons_succ]
  refine wpAnyH_take (i := 38) (oi := { dst := some 41, op := .fieldAddr 26 (.tmp 40) 9, type := 0, pos := "fields.go:18", after := #[{ on := 37, ground := .data }], guard := none }) (v := .pointer (some ⟨p, 9, none⟩)) rfl (by kernel_rfl) (by kernel_rfl) (by kernel_rfl) (fun _ _ _ h => h) (Or.inl ⟨by rfl, by intro w hSw; clear hSw; go_simp⟩) hS0 ?_
  try simp only [Act.put, List.setIfInBounds_toArray, List.set_cons_zero, List.set_cons_succ]
  refine wpAnyH_take (i := 40) (oi := { dst := some 43, op := .move (.tmp 0), type := 58, pos := "fields.go:18", after := #[], guard := none }) (v := .pointer (some ⟨p, 0, none⟩)) rfl (by kernel_rfl) (by kernel_rfl) (by kernel_rfl) (fun _ _ _ h => h) (Or.inl ⟨by rfl, by intro w hSw; clear hSw; go_simp⟩) hS0 ?_
  try simp only [Act.put, List.setIfInBounds_toArray, List.set_cons_zero, List.set_cons_succ]
  refine wpAnyH_take (i := 41) (oi := { dst := some 44, op := Op.nilCheck (.tmp 43), type := 0, pos := "fields.go:18", after := #[{ on := 40, ground := .data }], guard := none }) (v := .pointer (some ⟨p, 0, none⟩)) rfl (by kernel_rfl) (by kernel_rfl) (by kernel_rfl) (fun _ _ _ h => h) (Or.inl ⟨by rfl, by intro w hSw; clear hSw; go_simp⟩) hS0 ?_
  try simp only [Act.put, List.setIfInBounds_toArray, List.set_cons_zero, List.set_cons_succ]
  refine wpAnyH_take (i := 42) (oi := { dst := some 45, op := .fieldAddr 26 (.tmp 44) 10, type := 0, pos := "fields.go:18", after := #[{ on := 41, ground := .data }], guard := none }) (v := .pointer (some ⟨p, 10, none⟩)) rfl (by kernel_rfl) (by kernel_rfl) (by kernel_rfl) (fun _ _ _ h => h) (Or.inl ⟨by rfl, by intro w hSw; clear hSw; go_simp⟩) hS0 ?_
  try simp only [Act.put, List.setIfInBounds_toArray, List.set_cons_zero, List.set_cons_succ]
  refine wpAnyH_ready (rs := [3]) (by kernel_rfl) (by simp) ?_
  refine AllReadyH.cons (o := { dst := some 6, op := .call { callee := .value (.func 39), args := #[.const (Value.string { data := #[117, 110, 98, 111, 110, 100, 105, 110, 103] }), .const (Value.int IntKind.u64 1), .const (Value.int IntKind.u64 1048576), .tmp 5], argTypes := #[9, 23, 23, 87] }, type := 62, pos := "fields.go:19", after := #[{ on := 2, ground := .data }], guard := none }) rfl (fun K hK => ?_) AllReadyH.nil
  go_simp
  refine (numI _ _ _ _ _).mono ?_
  rintro e v1 ⟨c0, rfl, hc0, hm0, hl0, hb0⟩
  go_wp2_with fail
  refine hK.out _ _ (hS0.trans hb0) (fun hS1 => ?_)
  clear hK K
  try simp only [Act.put, List.setIfInBounds_toArray, List.set_cons_zero, List.set_cons_succ]
  refine wpAnyH_ready (rs := [7]) (by kernel_rfl) (by simp) ?_
  refine AllReadyH.cons (o := { dst := some 10, op := .call { callee := .value (.func 39), args := #[.const (Value.string { data := #[109, 97, 120, 97, 103, 101] }), .const (Value.int IntKind.u64 0), .const (Value.int IntKind.u64 1048576), .tmp 9], argTypes := #[9, 23, 23, 87] }, type := 62, pos := "fields.go:20", after := #[{ on := 6, ground := .data }, { on := 3, ground := .chain }], guard := none }) rfl (fun K hK => ?_) AllReadyH.nil
  go_simp
  refine (numI _ _ _ _ _).mono ?_
  rintro e v2 ⟨c1, rfl, hc1, hm1, hl1, hb1⟩
  go_wp2_with fail
  refine hK.out _ _ (hS1.trans hb1) (fun hS2 => ?_)
  clear hK K
  try simp only [Act.put, List.setIfInBounds_toArray, List.set_cons_zero, List.set_cons_succ]
  refine wpAnyH_ready (rs := [11]) (by kernel_rfl) (by simp) ?_
  refine AllReadyH.cons (o := { dst := some 14, op := .call { callee := .value (.func 39), args := #[.const (Value.string { data := #[101, 112, 111, 99, 104, 108, 101, 110] }), .const (Value.int IntKind.u64 1), .const (Value.int IntKind.u64 1000), .tmp 13], argTypes := #[9, 23, 23, 87] }, type := 62, pos := "fields.go:21", after := #[{ on := 10, ground := .data }, { on := 7, ground := .chain }], guard := none }) rfl (fun K hK => ?_) AllReadyH.nil
  go_simp
  refine (numI _ _ _ _ _).mono ?_
  rintro e v3 ⟨c2, rfl, hc2, hm2, hl2, hb2⟩
  go_wp2_with fail
  refine hK.out _ _ (hS2.trans hb2) (fun hS3 => ?_)
  clear hK K
  try simp only [Act.put, List.setIfInBounds_toArray, List.set_cons_zero, List.set_cons_succ]
  refine wpAnyH_ready (rs := [15]) (by kernel_rfl) (by simp) ?_
  refine AllReadyH.cons (o := { dst := some 18, op := .call { callee := .value (.func 39), args := #[.const (Value.string { data := #[119, 105, 110, 100, 111, 119] }), .const (Value.int IntKind.u64 1), .const (Value.int IntKind.u64 256), .tmp 17], argTypes := #[9, 23, 23, 87] }, type := 62, pos := "fields.go:22", after := #[{ on := 14, ground := .data }, { on := 11, ground := .chain }], guard := none }) rfl (fun K hK => ?_) AllReadyH.nil
  go_simp
  refine (numI _ _ _ _ _).mono ?_
  rintro e v4 ⟨c3, rfl, hc3, hm3, hl3, hb3⟩
  go_wp2_with fail
  refine hK.out _ _ (hS3.trans hb3) (fun hS4 => ?_)
  clear hK K
  try simp only [Act.put, List.setIfInBounds_toArray, List.set_cons_zero, List.set_cons_succ]
  refine wpAnyH_ready (rs := [19]) (by kernel_rfl) (by simp) ?_
  refine AllReadyH.cons (o := { dst := some 22, op := .call { callee := .value (.func 39), args := #[.const (Value.string { data := #[101, 110, 116, 114, 105, 101, 115] }), .const (Value.int IntKind.u64 1), .const (Value.int IntKind.u64 16), .tmp 21], argTypes := #[9, 23, 23, 87] }, type := 62, pos := "fields.go:23", after := #[{ on := 18, ground := .data }, { on := 15, ground := .chain }], guard := none }) rfl (fun K hK => ?_) AllReadyH.nil
  go_simp
  refine (numI _ _ _ _ _).mono ?_
  rintro e v5 ⟨c4, rfl, hc4, hm4, hl4, hb4⟩
  go_wp2_with fail
  refine hK.out _ _ (hS4.trans hb4) (fun hS5 => ?_)
  clear hK K
  try simp only [Act.put, List.setIfInBounds_toArray, List.set_cons_zero, List.set_cons_succ]
  refine wpAnyH_ready (rs := [23]) (by kernel_rfl) (by simp) ?_
  refine AllReadyH.cons (o := { dst := some 26, op := .call { callee := .value (.func 39), args := #[.const (Value.string { data := #[109, 97, 120, 97, 99, 116, 105, 118, 101] }), .const (Value.int IntKind.u64 1), .const (Value.int IntKind.u64 32), .tmp 25], argTypes := #[9, 23, 23, 87] }, type := 62, pos := "fields.go:24", after := #[{ on := 22, ground := .data }, { on := 19, ground := .chain }], guard := none }) rfl (fun K hK => ?_) AllReadyH.nil
  go_simp
  refine (numI _ _ _ _ _).mono ?_
  rintro e v6 ⟨c5, rfl, hc5, hm5, hl5, hb5⟩
  go_wp2_with fail
  refine hK.out _ _ (hS5.trans hb5) (fun hS6 => ?_)
  clear hK K
  try simp only [Act.put, List.setIfInBounds_toArray, List.set_cons_zero, List.set_cons_succ]
  refine wpAnyH_ready (rs := [27]) (by kernel_rfl) (by simp) ?_
  refine AllReadyH.cons (o := { dst := some 30, op := .call { callee := .value (.func 39), args := #[.const (Value.string { data := #[106, 97, 105, 108, 116, 105, 109, 101] }), .const (Value.int IntKind.u64 1), .const (Value.int IntKind.u64 1048576), .tmp 29], argTypes := #[9, 23, 23, 87] }, type := 62, pos := "fields.go:25", after := #[{ on := 26, ground := .data }, { on := 23, ground := .chain }], guard := none }) rfl (fun K hK => ?_) AllReadyH.nil
  go_simp
  refine (numI _ _ _ _ _).mono ?_
  rintro e v7 ⟨c6, rfl, hc6, hm6, hl6, hb6⟩
  go_wp2_with fail
  refine hK.out _ _ (hS6.trans hb6) (fun hS7 => ?_)
  clear hK K
  try simp only [Act.put, List.setIfInBounds_toArray, List.set_cons_zero, List.set_cons_succ]
  refine wpAnyH_ready (rs := [31]) (by kernel_rfl) (by simp) ?_
  refine AllReadyH.cons (o := { dst := some 34, op := .call { callee := .value (.func 40), args := #[.const (Value.string { data := #[98, 97, 115, 101] }), .const (Value.int IntKind.u64 0), .const (Value.int IntKind.u64 1000000000), .tmp 33], argTypes := #[9, 23, 23, 89] }, type := 62, pos := "fields.go:26", after := #[{ on := 30, ground := .data }, { on := 27, ground := .chain }], guard := none }) rfl (fun K hK => ?_) AllReadyH.nil
  go_simp
  refine (numU _ _ _ _ _).mono ?_
  rintro e v8 ⟨c7, rfl, hc7, hm7, hl7, hb7⟩
  go_wp2_with fail
  refine hK.out _ _ (hS7.trans hb7) (fun hS8 => ?_)
  clear hK K
  try simp only [Act.put, List.setIfInBounds_toArray, List.set_cons_zero, List.set_cons_succ]
  refine wpAnyH_ready (rs := [35]) (by kernel_rfl) (by simp) ?_
  refine AllReadyH.cons (o := { dst := some 38, op := .call { callee := .value (.func 40), args := #[.const (Value.string { data := #[109, 117, 108, 116] }), .const (Value.int IntKind.u64 0), .const (Value.int IntKind.u64 1000), .tmp 37], argTypes := #[9, 23, 23, 89] }, type := 62, pos := "fields.go:27", after := #[{ on := 34, ground := .data }, { on := 31, ground := .chain }], guard := none }) rfl (fun K hK => ?_) AllReadyH.nil
  go_simp
  refine (numU _ _ _ _ _).mono ?_
  rintro e v9 ⟨c8, rfl, hc8, hm8, hl8, hb8⟩
  go_wp2_with fail
  refine hK.out _ _ (hS8.trans hb8) (fun hS9 => ?_)
  clear hK K
  try simp only [Act.put, List.setIfInBounds_toArray, List.set_cons_zero, List.set_cons_succ]
  refine wpAnyH_ready (rs := [39]) (by kernel_rfl) (by simp) ?_
  refine AllReadyH.cons (o := { dst := some 42, op := .call { callee := .value (.func 39), args := #[.const (Value.string { data := #[99, 111, 114, 114, 119, 105, 110, 100, 111, 119] }), .const (Value.int IntKind.u64 1), .const (Value.int IntKind.u64 1048576), .tmp 41], argTypes := #[9, 23, 23, 87] }, type := 62, pos := "fields.go:28", after := #[{ on := 38, ground := .data }, { on := 35, ground := .chain }], guard := none }) rfl (fun K hK => ?_) AllReadyH.nil
  go_simp
  refine (numI _ _ _ _ _).mono ?_
  rintro e v10 ⟨c9, rfl, hc9, hm9, hl9, hb9⟩
  go_wp2_with fail
  refine hK.out _ _ (hS9.trans hb9) (fun hS10 => ?_)
  clear hK K
  try simp only [Act.put, List.setIfInBounds_toArray, List.set_cons_zero, List.set_cons_succ]
  refine wpAnyH_ready (rs := [43]) (by kernel_rfl) (by simp) ?_
  refine AllReadyH.cons (o := { dst := some 46, op := .call { callee := .value (.func 40), args := #[.const (Value.string { data := #[114, 101, 119, 97, 114, 100] }), .const (Value.int IntKind.u64 0), .const (Value.int IntKind.u64 1000000000), .tmp 45], argTypes := #[9, 23, 23, 89] }, type := 62, pos := "fields.go:29", after := #[{ on := 42, ground := .data }, { on := 39, ground := .chain }], guard := none }) rfl (fun K hK => ?_) AllReadyH.nil
  go_simp
  refine (numU _ _ _ _ _).mono ?_
  rintro e v11 ⟨c10, rfl, hc10, hm10, hl10, hb10⟩
  go_wp2_with fail
  refine hK.out _ _ (hS10.trans hb10) (fun hS11 => ?_)
  clear hK K
  try simp only [Act.put, List.setIfInBounds_toArray, List.set_cons_zero, List.set_cons_succ]
  refine wpAnyH_ready (rs := [44]) (by kernel_rfl) (by simp) ?_
  refine AllReadyH.cons (o := { dst := some 47, op := .buildSlice 56 11 #[(0, .tmp 6), (1, .tmp 10), (2, .tmp 14), (3, .tmp 18), (4, .tmp 22), (5, .tmp 26), (6, .tmp 30), (7, .tmp 34), (8, .tmp 38), (9, .tmp 42), (10, .tmp 46)], type := 56, pos := "fields.go:18", after := #[{ on := 3, ground := .data }, { on := 7, ground := .data }, { on := 11, ground := .data }, { on := 15, ground := .data }, { on := 19, ground := .data }, { on := 23, ground := .data }, { on := 27, ground := .data }, { on := 31, ground := .data }, { on := 35, ground := .data }, { on := 39, ground := .data }, { on := 43, ground := .data }], guard := none }) rfl (fun K hK => ?_) AllReadyH.nil
  go_simp
  refine hK.out _ _ (hS11.alloc _) (fun hS12 => ?_)
  clear hK K
  refine wpAnyH_take (i := 45) (oi := { dst := some 2, op := .assign (.tmp 47), type := 56, pos := "fields.go:18", after := #[{ on := 44, ground := .data }, { on := 43, ground := .chain }, { on := 0, ground := .phase }, { on := 1, ground := .phase }, { on := 2, ground := .phase }, { on := 3, ground := .phase }, { on := 4, ground := .phase }, { on := 5, ground := .phase }, { on := 6, ground := .phase }, { on := 7, ground := .phase }, { on := 8, ground := .phase }, { on := 9, ground := .phase }, { on := 10, ground := .phase }, { on := 11, ground := .phase }, { on := 12, ground := .phase }, { on := 13, ground := .phase }, { on := 14, ground := .phase }, { on := 15, ground := .phase }, { on := 16, ground := .phase }, { on := 17, ground := .phase }, { on := 18, ground := .phase }, { on := 19, ground := .phase }, { on := 20, ground := .phase }, { on := 21, ground := .phase }, { on := 22, ground := .phase }, { on := 23, ground := .phase }, { on := 24, ground := .phase }, { on := 25, ground := .phase }, { on := 26, ground := .phase }, { on := 27, ground := .phase }, { on := 28, ground := .phase }, { on := 29, ground := .phase }, { on := 30, ground := .phase }, { on := 31, ground := .phase }, { on := 32, ground := .phase }, { on := 33, ground := .phase }, { on := 34, ground := .phase }, { on := 35, ground := .phase }, { on := 36, ground := .phase }, { on := 37, ground := .phase }, { on := 38, ground := .phase }, { on := 39, ground := .phase }, { on := 40, ground := .phase }, { on := 41, ground := .phase }, { on := 42, ground := .phase }, { on := 43, ground := .phase }, { on := 44, ground := .phase }], guard := none }) (v := .slice (some ⟨v11.heap.size, 0, none⟩) 11 11) rfl (by kernel_rfl) (by kernel_rfl) (by kernel_rfl) (fun _ _ _ h => h) (Or.inl ⟨by rfl, by intro w hSw; clear hSw; go_simp⟩) hS12 ?_
  try simp only [Act.put, List.setIfInBounds_toArray, List.set_cons_zero, List.set_cons_succ]
  refine wpAnyH_done (by kernel_rfl) ?_ _
  obtain ⟨W, hW⟩ : ∃ W, v11.alloc (.cells #[.string ⟨#[117, 110, 98, 111, 110, 100, 105, 110, 103]⟩, .int .u64 1, .int .u64 1048576, .func (.func 54) #[] #[.pointer (some ⟨c0, 0, none⟩)], .func (.func 55) #[] #[.pointer (some ⟨c0, 0, none⟩)], .string ⟨#[109, 97, 120, 97, 103, 101]⟩, .int .u64 0, .int .u64 1048576, .func (.func 54) #[] #[.pointer (some ⟨c1, 0, none⟩)], .func (.func 55) #[] #[.pointer (some ⟨c1, 0, none⟩)], .string ⟨#[101, 112, 111, 99, 104, 108, 101, 110]⟩, .int .u64 1, .int .u64 1000, .func (.func 54) #[] #[.pointer (some ⟨c2, 0, none⟩)], .func (.func 55) #[] #[.pointer (some ⟨c2, 0, none⟩)], .string ⟨#[119, 105, 110, 100, 111, 119]⟩, .int .u64 1, .int .u64 256, .func (.func 54) #[] #[.pointer (some ⟨c3, 0, none⟩)], .func (.func 55) #[] #[.pointer (some ⟨c3, 0, none⟩)], .string ⟨#[101, 110, 116, 114, 105, 101, 115]⟩, .int .u64 1, .int .u64 16, .func (.func 54) #[] #[.pointer (some ⟨c4, 0, none⟩)], .func (.func 55) #[] #[.pointer (some ⟨c4, 0, none⟩)], .string ⟨#[109, 97, 120, 97, 99, 116, 105, 118, 101]⟩, .int .u64 1, .int .u64 32, .func (.func 54) #[] #[.pointer (some ⟨c5, 0, none⟩)], .func (.func 55) #[] #[.pointer (some ⟨c5, 0, none⟩)], .string ⟨#[106, 97, 105, 108, 116, 105, 109, 101]⟩, .int .u64 1, .int .u64 1048576, .func (.func 54) #[] #[.pointer (some ⟨c6, 0, none⟩)], .func (.func 55) #[] #[.pointer (some ⟨c6, 0, none⟩)], .string ⟨#[98, 97, 115, 101]⟩, .int .u64 0, .int .u64 1000000000, .func (.func 56) #[] #[.pointer (some ⟨c7, 0, none⟩)], .func (.func 57) #[] #[.pointer (some ⟨c7, 0, none⟩)], .string ⟨#[109, 117, 108, 116]⟩, .int .u64 0, .int .u64 1000, .func (.func 56) #[] #[.pointer (some ⟨c8, 0, none⟩)], .func (.func 57) #[] #[.pointer (some ⟨c8, 0, none⟩)], .string ⟨#[99, 111, 114, 114, 119, 105, 110, 100, 111, 119]⟩, .int .u64 1, .int .u64 1048576, .func (.func 54) #[] #[.pointer (some ⟨c9, 0, none⟩)], .func (.func 55) #[] #[.pointer (some ⟨c9, 0, none⟩)], .string ⟨#[114, 101, 119, 97, 114, 100]⟩, .int .u64 0, .int .u64 1000000000, .func (.func 56) #[] #[.pointer (some ⟨c10, 0, none⟩)], .func (.func 57) #[] #[.pointer (some ⟨c10, 0, none⟩)]] 62) = W := ⟨_, rfl⟩
  have hB : Blk W v11.heap.size #[.string ⟨#[117, 110, 98, 111, 110, 100, 105, 110, 103]⟩, .int .u64 1, .int .u64 1048576, .func (.func 54) #[] #[.pointer (some ⟨c0, 0, none⟩)], .func (.func 55) #[] #[.pointer (some ⟨c0, 0, none⟩)], .string ⟨#[109, 97, 120, 97, 103, 101]⟩, .int .u64 0, .int .u64 1048576, .func (.func 54) #[] #[.pointer (some ⟨c1, 0, none⟩)], .func (.func 55) #[] #[.pointer (some ⟨c1, 0, none⟩)], .string ⟨#[101, 112, 111, 99, 104, 108, 101, 110]⟩, .int .u64 1, .int .u64 1000, .func (.func 54) #[] #[.pointer (some ⟨c2, 0, none⟩)], .func (.func 55) #[] #[.pointer (some ⟨c2, 0, none⟩)], .string ⟨#[119, 105, 110, 100, 111, 119]⟩, .int .u64 1, .int .u64 256, .func (.func 54) #[] #[.pointer (some ⟨c3, 0, none⟩)], .func (.func 55) #[] #[.pointer (some ⟨c3, 0, none⟩)], .string ⟨#[101, 110, 116, 114, 105, 101, 115]⟩, .int .u64 1, .int .u64 16, .func (.func 54) #[] #[.pointer (some ⟨c4, 0, none⟩)], .func (.func 55) #[] #[.pointer (some ⟨c4, 0, none⟩)], .string ⟨#[109, 97, 120, 97, 99, 116, 105, 118, 101]⟩, .int .u64 1, .int .u64 32, .func (.func 54) #[] #[.pointer (some ⟨c5, 0, none⟩)], .func (.func 55) #[] #[.pointer (some ⟨c5, 0, none⟩)], .string ⟨#[106, 97, 105, 108, 116, 105, 109, 101]⟩, .int .u64 1, .int .u64 1048576, .func (.func 54) #[] #[.pointer (some ⟨c6, 0, none⟩)], .func (.func 55) #[] #[.pointer (some ⟨c6, 0, none⟩)], .string ⟨#[98, 97, 115, 101]⟩, .int .u64 0, .int .u64 1000000000, .func (.func 56) #[] #[.pointer (some ⟨c7, 0, none⟩)], .func (.func 57) #[] #[.pointer (some ⟨c7, 0, none⟩)], .string ⟨#[109, 117, 108, 116]⟩, .int .u64 0, .int .u64 1000, .func (.func 56) #[] #[.pointer (some ⟨c8, 0, none⟩)], .func (.func 57) #[] #[.pointer (some ⟨c8, 0, none⟩)], .string ⟨#[99, 111, 114, 114, 119, 105, 110, 100, 111, 119]⟩, .int .u64 1, .int .u64 1048576, .func (.func 54) #[] #[.pointer (some ⟨c9, 0, none⟩)], .func (.func 55) #[] #[.pointer (some ⟨c9, 0, none⟩)], .string ⟨#[114, 101, 119, 97, 114, 100]⟩, .int .u64 0, .int .u64 1000000000, .func (.func 56) #[] #[.pointer (some ⟨c10, 0, none⟩)], .func (.func 57) #[] #[.pointer (some ⟨c10, 0, none⟩)]] 62 := by rw [← hW]; exact Blk.new _ _ _
  have b11 : Bel v11 W := by rw [← hW]; exact (Bel.refl _).alloc _
  rw [hW]
  rw [hW] at hS12
  go_wp2
  go_ret
  refine ⟨v11.heap.size, rfl, ⟨hB.lt, Below.size hS11, fun i hi => ?_⟩, hS12⟩
  match i, hi with
  | 0, _ => exact ⟨c0, rng5 hB 0 _ _ _ _ _ rfl rfl rfl rfl rfl, cell_bel (cell_bel (cell_bel (cell_bel (cell_bel (cell_bel (cell_bel (cell_bel (cell_bel (cell_bel (cell_bel (hc0) hb1) hb2) hb3) hb4) hb5) hb6) hb7) hb8) hb9) hb10) b11, by have := Below.size hS0; omega⟩
  | 1, _ => exact ⟨c1, rng5 hB 5 _ _ _ _ _ rfl rfl rfl rfl rfl, cell_bel (cell_bel (cell_bel (cell_bel (cell_bel (cell_bel (cell_bel (cell_bel (cell_bel (cell_bel (hc1) hb2) hb3) hb4) hb5) hb6) hb7) hb8) hb9) hb10) b11, by have := Below.size hS1; omega⟩
  | 2, _ => exact ⟨c2, rng5 hB 10 _ _ _ _ _ rfl rfl rfl rfl rfl, cell_bel (cell_bel (cell_bel (cell_bel (cell_bel (cell_bel (cell_bel (cell_bel (cell_bel (hc2) hb3) hb4) hb5) hb6) hb7) hb8) hb9) hb10) b11, by have := Below.size hS2; omega⟩
  | 3, _ => exact ⟨c3, rng5 hB 15 _ _ _ _ _ rfl rfl rfl rfl rfl, cell_bel (cell_bel (cell_bel (cell_bel (cell_bel (cell_bel (cell_bel (cell_bel (hc3) hb4) hb5) hb6) hb7) hb8) hb9) hb10) b11, by have := Below.size hS3; omega⟩
  | 4, _ => exact ⟨c4, rng5 hB 20 _ _ _ _ _ rfl rfl rfl rfl rfl, cell_bel (cell_bel (cell_bel (cell_bel (cell_bel (cell_bel (cell_bel (hc4) hb5) hb6) hb7) hb8) hb9) hb10) b11, by have := Below.size hS4; omega⟩
  | 5, _ => exact ⟨c5, rng5 hB 25 _ _ _ _ _ rfl rfl rfl rfl rfl, cell_bel (cell_bel (cell_bel (cell_bel (cell_bel (cell_bel (hc5) hb6) hb7) hb8) hb9) hb10) b11, by have := Below.size hS5; omega⟩
  | 6, _ => exact ⟨c6, rng5 hB 30 _ _ _ _ _ rfl rfl rfl rfl rfl, cell_bel (cell_bel (cell_bel (cell_bel (cell_bel (hc6) hb7) hb8) hb9) hb10) b11, by have := Below.size hS6; omega⟩
  | 7, _ => exact ⟨c7, rng5 hB 35 _ _ _ _ _ rfl rfl rfl rfl rfl, cell_bel (cell_bel (cell_bel (cell_bel (hc7) hb8) hb9) hb10) b11, by have := Below.size hS7; omega⟩
  | 8, _ => exact ⟨c8, rng5 hB 40 _ _ _ _ _ rfl rfl rfl rfl rfl, cell_bel (cell_bel (cell_bel (hc8) hb9) hb10) b11, by have := Below.size hS8; omega⟩
  | 9, _ => exact ⟨c9, rng5 hB 45 _ _ _ _ _ rfl rfl rfl rfl rfl, cell_bel (cell_bel (hc9) hb10) b11, by have := Below.size hS9; omega⟩
  | 10, _ => exact ⟨c10, rng5 hB 50 _ _ _ _ _ rfl rfl rfl rfl rfl, cell_bel (hc10) b11, by have := Below.size hS10; omega⟩
  | n + 11, h => omega
end Pm
end Go.Proofs.YtkblbcdinibncaaDoor
end

section
/-
  What params.Check answers in this program: the first field that is out of bounds, or that MaxAge is greater than Unbonding.
  Conditions: the eleven numbers are of their kinds.
-/
namespace Go.Proofs.YtkblbcdinibncaaDoor
open Go.RowKit Go.Shelf
set_option linter.unusedVariables false
namespace Pm
open Kk

/-- The eleven cells of a record. -/
def recC (x : Nat → Int) : List Value := [.int .i64 (x 0), .int .i64 (x 1), .int .i64 (x 2), .int .i64 (x 3), .int .i64 (x 4), .int .i64 (x 5), .int .i64 (x 6), .int .u64 (x 7), .int .u64 (x 8), .int .i64 (x 9), .int .u64 (x 10)]
theorem recC_cells (x : Nat → Int) : ∀ u ∈ recC x, u.oneCell' = true := by
  intro u hu
  simp [recC] at hu
  rcases hu with rfl | rfl | rfl | rfl | rfl | rfl | rfl | rfl | rfl | rfl | rfl <;> rfl
theorem info_rec : (Tryd.prog.info? 26).map (·.size) = some 11 := by kernel_rfl
/-- Is the field i a word (not an int)? -/
def isU (i : Nat) : Bool := i == 7 || i == 8 || i == 10
def kd (i : Nat) : IntKind := if isU i then .u64 else .i64
/-- The numbers are of their kinds. -/
def Kinds (x : Nat → Int) : Prop := ∀ i, i < 11 → (isU i = true → 0 ≤ x i ∧ x i ≤ 18446744073709551615) ∧ (isU i = false → -9223372036854775808 ≤ x i ∧ x i ≤ 9223372036854775807)
/-- What the first closure of the field i answers. -/
def wv (x : Nat → Int) (i : Nat) : Int := if isU i then x i else IntKind.u64.wrap (x i)
theorem wv_b {x : Nat → Int} (h : Kinds x) (i : Nat) (hi : i < 11) : 0 ≤ wv x i ∧ wv x i ≤ 18446744073709551615 := by
  unfold wv
  cases hu : isU i with
  | true => simpa using (h i hi).1 hu
  | false => simp [IntKind.wrap, IntKind.bits, IntKind.signed]; omega
theorem rec_cell {w : World} {p : Nat} {x : Nat → Int} (h : w.rangeAt p 0 (recC x)) (i : Nat) (hi : i < 11) : w.cell? ⟨p, i, none⟩ = some (.int (kd i) (x i)) := by
  have := h i (.int (kd i) (x i)) (by
    match i, hi with
    | 0, _ => rfl
    | 1, _ => rfl
    | 2, _ => rfl
    | 3, _ => rfl
    | 4, _ => rfl
    | 5, _ => rfl
    | 6, _ => rfl
    | 7, _ => rfl
    | 8, _ => rfl
    | 9, _ => rfl
    | 10, _ => rfl
    | n + 11, h => omega)
  rwa [Nat.zero_add] at this
/-- The first closure of the field i. -/
theorem getAt (c p i : Nat) (x : Nat → Int) (w : World) (hi : i < 11) (hc : w.cell? ⟨c, 0, none⟩ = some (.pointer (some ⟨p, i, none⟩))) (hr : w.rangeAt p 0 (recC x)) :
    Calls Tryd.prog (gf i) #[.pointer (some ⟨c, 0, none⟩)] w fun e w' => e = .returned (.int .u64 (wv x i)) ∧ w = w' := by
  have hv := rec_cell hr i hi
  match i, hi with
  | 0, _ => exact getI c p _ _ w hc hv
  | 1, _ => exact getI c p _ _ w hc hv
  | 2, _ => exact getI c p _ _ w hc hv
  | 3, _ => exact getI c p _ _ w hc hv
  | 4, _ => exact getI c p _ _ w hc hv
  | 5, _ => exact getI c p _ _ w hc hv
  | 6, _ => exact getI c p _ _ w hc hv
  | 7, _ => exact getU c p _ _ w hc hv
  | 8, _ => exact getU c p _ _ w hc hv
  | 9, _ => exact getI c p _ _ w hc hv
  | 10, _ => exact getU c p _ _ w hc hv
  | n + 11, h => omega

def okB (a b n : Int) : Bool := decide (a ≤ n ∧ n ≤ b)
set_option maxRecDepth 100000 in
set_option maxHeartbeats 1000000 in
theorem admits (s : ByteArray) (a b : Int) (g t c : Nat) (n : Int) (w : World) :
    Calls Tryd.prog 25 #[.agg (fldC s a b g t c).toArray, .int .u64 n] w fun e w' => e = .returned (.bool (okB a b n)) ∧ Bel w w' := by
  rw [show (fldC s a b g t c).toArray = #[.string s, .int .u64 a, .int .u64 b, .func (.func g) #[] #[.pointer (some ⟨c, 0, none⟩)], .func (.func t) #[] #[.pointer (some ⟨c, 0, none⟩)]] from rfl]
  by_cases h1 : a ≤ n
  · by_cases h2 : n ≤ b
    · have HB := Lib.hid (show okB a b n = true by simp [okB, h1, h2])
      go_enter Tryd.func25, Tryd.ntmps25
      go_wp2
      go_ret
      exact ⟨by rw [HB.out]; rfl, (Bel.refl w).alloc _⟩
    · have HB := Lib.hid (show okB a b n = false by simp [okB, h2])
      go_enter Tryd.func25, Tryd.ntmps25
      go_wp2
      go_ret
      exact ⟨by rw [HB.out]; rfl, (Bel.refl w).alloc _⟩
  · have HB := Lib.hid (show okB a b n = false by simp [okB, h1])
    go_enter Tryd.func25, Tryd.ntmps25
    go_wp2
    go_ret
    exact ⟨by rw [HB.out]; rfl, (Bel.refl w).alloc _⟩

set_option maxRecDepth 100000 in
set_option maxHeartbeats 1000000 in
theorem ordered (x : Nat → Int) (w : World) :
    Calls Tryd.prog 26 #[.agg (recC x).toArray] w fun e w' => e = .returned (.bool (decide (x 1 ≤ x 0))) ∧ Bel w w' := by
  rw [show (recC x).toArray = #[.int .i64 (x 0), .int .i64 (x 1), .int .i64 (x 2), .int .i64 (x 3), .int .i64 (x 4), .int .i64 (x 5), .int .i64 (x 6), .int .u64 (x 7), .int .u64 (x 8), .int .i64 (x 9), .int .u64 (x 10)] from rfl]
  go_enter Tryd.func26, Tryd.ntmps26
  go_wp2
  go_ret
  exact ⟨rfl, (Bel.refl w).alloc _⟩
end Pm
end Go.Proofs.YtkblbcdinibncaaDoor
end

section
/-
  What params.Check answers in this program: the first field that is out of bounds, or that MaxAge is greater than Unbonding.
  Conditions: the eleven numbers are of their kinds.
-/
namespace Go.Proofs.YtkblbcdinibncaaDoor
open Go.RowKit Go.Shelf
set_option linter.unusedVariables false
namespace Pm
open Kk

def okF (x : Nat → Int) (i : Nat) : Bool := okB (lo i) (hi i) (wv x i)
/-- What Check answers of the numbers x. -/
def Chk (x : Nat → Int) (a b : Int) : Prop :=
  (∃ i, i < 11 ∧ (∀ j, j < i → okF x j = true) ∧ okF x i = false ∧ a = 3 ∧ b = (i : Int)) ∨ ((∀ j, j < 11 → okF x j = true) ∧ x 0 < x 1 ∧ a = 9 ∧ b = 1) ∨ ((∀ j, j < 11 → okF x j = true) ∧ x 1 ≤ x 0 ∧ a = 0 ∧ b = 0)
def ChkE (x : Nat → Int) (w : World) (e : Ending) (w' : World) : Prop := ∃ a b, e = .returned (.tuple #[.int .i64 a, .int .i64 b]) ∧ Chk x a b ∧ Bel w w'

/-- A new field's cell, with a field laid into it. -/
abbrev ZF : Obj := .cells #[.string ⟨#[]⟩, .int .u64 0, .int .u64 0, .nilFunc, .nilFunc] 62
theorem put5 (w : World) (Y : List Value) (hl : Y.length = 5) : (w.alloc ZF).there w.heap.size 0 Y.toArray.size ∧ Bel w ((w.alloc ZF).setCells w.heap.size 0 Y) ∧ Blk ((w.alloc ZF).setCells w.heap.size 0 Y) w.heap.size Y.toArray 62 :=
  ⟨bthere (Blk.new w _ _) 0 _ (by simp [hl]), bel_setCells ((Bel.refl w).alloc _) (Nat.le_refl _) 0 Y, bwhole (Blk.new w _ _) (by simp [hl])⟩

theorem upto_succ {f : Nat → Bool} {k : Nat} (h : ∀ j, j < k → f j = true) (hk : f k = true) : ∀ j, j < k + 1 → f j = true := fun j hj => by
  by_cases e : j = k
  · rw [e]; exact hk
  · exact h j (by omega)
theorem gf_or (i : Nat) (hi : i < 11) : gf i = 54 ∨ gf i = 56 := by
  match i, hi with
  | 0, _ => exact .inl rfl
  | 1, _ => exact .inl rfl
  | 2, _ => exact .inl rfl
  | 3, _ => exact .inl rfl
  | 4, _ => exact .inl rfl
  | 5, _ => exact .inl rfl
  | 6, _ => exact .inl rfl
  | 7, _ => exact .inr rfl
  | 8, _ => exact .inr rfl
  | 9, _ => exact .inl rfl
  | 10, _ => exact .inr rfl
  | n + 11, h => omega
/-- A call of the first closure of a field enters it. -/
theorem enter_gf (i : Nat) (hi : i < 11) (args : Array Value) (w : World) : (callFunc (gf i) args).run Tryd.prog w = .ok (.enter (gf i) args) w := by
  rcases gf_or i hi with h | h
  · rw [h]
    go_simp
  · rw [h]
    go_simp

set_option maxRecDepth 100000 in
set_option maxHeartbeats 4000000 in
theorem check (x : Nat → Int) (hx : Kinds x) (w : World) : Calls Tryd.prog 8 #[.agg (recC x).toArray] w (ChkE x w) := by
  obtain ⟨D, hD⟩ : ∃ D, D = recC x := ⟨_, rfl⟩
  obtain ⟨W, hW⟩ : ∃ W, w.alloc (.cells D.toArray 26) = W := ⟨_, rfl⟩
  have B0 := Lib.hid (show Bel w W by rw [← hW]; exact (Bel.refl w).alloc _)
  have R0 := Lib.hid (show W.rangeAt w.heap.size 0 (recC x) by rw [← hW, hD]; exact rngB (Blk.new w (recC x).toArray 26))
  obtain ⟨p, hp⟩ : ∃ p, w.heap.size = p := ⟨_, rfl⟩
  rw [hp] at R0
  have HDl := Lib.hid (show D.length = 11 by rw [hD]; rfl)
  have HD := Lib.hid hD
  rw [← hD]
  have HX := Lib.hid hx
  have HP := Lib.hid hp
  have HW := Lib.hid hW
  clear hx hp hD hW
  go_enter Tryd.func8, Tryd.ntmps8
  go_upto_region 1 with fail
  rw [HW.out, HP.out]
  go_wp2_with fail
  refine (fieldsR p W).mono ?_
  rintro e w1 ⟨b, rfl, hF, k1⟩
  have B1 : Hid (Bel W w1) := Lib.hid k1
  have F1 := Lib.hid hF
  clear k1 hF
  go_wp2_with fail
  go_loopw [8] (fun u8 wr => ∃ k : Nat, u8 = .int .i64 k ∧ k ≤ 11 ∧ (∀ j, j < k → okF x j = true) ∧ Bel w1 wr) (fun u8 _ => 11 - (intOf u8).toNat)
  case atStart => exact ⟨0, rfl, by omega, fun j hj => by omega, Bel.refl _⟩
  case round =>
    obtain ⟨k, rfl, hk, hall, hb⟩ := hrel
    have HA := Lib.hid hall
    clear hall
    have KB := Lib.hid hb
    clear hb
    by_cases hlt : k < 11
    · obtain ⟨c, h1, h2, h3⟩ := (F1.out.bel KB.out).all k hlt
      have hY0 : ∃ Y, Y = fldC (nm k) (lo k) (hi k) (gf k) (sf k) c := ⟨_, rfl⟩
      obtain ⟨Y, hY⟩ := hY0
      rw [← hY] at h1
      have HYl := Lib.hid (show Y.length = 5 by rw [hY]; rfl)
      have YI := Lib.hid (show (Tryd.prog.info? 62).map (·.size) = some Y.length by rw [HYl.out]; exact info_fld)
      have YI2 := Lib.hid (show (Tryd.prog.info? 62).map (·.size) = some Y.toArray.size by rw [List.size_toArray]; exact YI.out)
      have YO := Lib.hid (all_oneCell_toArray (cs := Y) (by rw [hY]; exact fldC_cells _ _ _ _ _ _))
      have HY := Lib.hid hY
      have R1 := Lib.hid h1
      obtain ⟨p1, p2, p3⟩ := put5 wr Y HYl.out
      have P1 := Lib.hid p1
      have P2 := Lib.hid p2
      have P3 := Lib.hid p3
      have C1 := Lib.hid h2
      clear h1 h2 h3 p1 p2 p3 hY
      go_upto_region 4 with (first | (refine wpList_load_mid rfl 62 (.tmp 11) rfl b (k * 5) rfl Y _ R1.out Tryd.underlying62 rfl YI.out ?_) | (refine wpList_store_mid rfl 62 (.tmp 5) (.tmp 12) rfl wr.heap.size 0 Y.toArray rfl rfl P1.out YI2.out YO.out ?_))
      obtain ⟨f, hf⟩ : ∃ f, wr.heap.size = f := ⟨_, rfl⟩
      obtain ⟨V, hV⟩ : ∃ V, (wr.alloc ZF).setCells wr.heap.size 0 Y = V := ⟨_, rfl⟩
      have hV' := hV
      rw [hf] at hV' ⊢
      rw [hV] at P2 P3
      rw [hf] at P3
      rw [hV']
      clear hV hV' hf
      have S0 : V.rangeAt f 0 Y ∧ V.rangeAt p 0 (recC x) ∧ V.cell? ⟨c, 0, none⟩ = some (.pointer (some ⟨p, k, none⟩)) ∧ Bel w1 V := ⟨rngB P3.out, rng_bel (rng_bel (rng_bel R0.out B1.out) KB.out) P2.out, cell_bel C1.out P2.out, KB.out.trans P2.out⟩
      have S0d : V.drew.rangeAt f 0 Y ∧ V.drew.rangeAt p 0 (recC x) ∧ V.drew.cell? ⟨c, 0, none⟩ = some (.pointer (some ⟨p, k, none⟩)) ∧ Bel w1 V.drew := ⟨rng_bel S0.1 (Bel.refl V).drew, rng_bel S0.2.1 (Bel.refl V).drew, cell_bel S0.2.2.1 (Bel.refl V).drew, S0.2.2.2.drew⟩
      have KEEP := Lib.hid (show ∀ V V' : World, (V.rangeAt f 0 Y ∧ V.rangeAt p 0 (recC x) ∧ V.cell? ⟨c, 0, none⟩ = some (.pointer (some ⟨p, k, none⟩)) ∧ Bel w1 V) → Bel V V' → (V'.rangeAt f 0 Y ∧ V'.rangeAt p 0 (recC x) ∧ V'.cell? ⟨c, 0, none⟩ = some (.pointer (some ⟨p, k, none⟩)) ∧ Bel w1 V') from
        fun V V' h hb => ⟨rng_bel h.1 hb, rng_bel h.2.1 hb, cell_bel h.2.2.1 hb, h.2.2.2.trans hb⟩)
      have C3 := Lib.hid (show ∀ V : World, V.rangeAt f 0 Y → V.cell? ⟨f, 3, none⟩ = some (.func (.func (gf k)) #[] #[.pointer (some ⟨c, 0, none⟩)]) from fun V h => by have := h 3 (.func (.func (gf k)) #[] #[.pointer (some ⟨c, 0, none⟩)]) (by rw [HY.out]; rfl); rwa [Nat.zero_add] at this)
      have GA := Lib.hid (show ∀ V : World, (V.rangeAt f 0 Y ∧ V.rangeAt p 0 (recC x) ∧ V.cell? ⟨c, 0, none⟩ = some (.pointer (some ⟨p, k, none⟩)) ∧ Bel w1 V) → Calls Tryd.prog (gf k) #[.pointer (some ⟨c, 0, none⟩)] V fun e w' => e = .returned (.int .u64 (wv x k)) ∧ V = w' from fun V h => getAt c p k x V hlt h.2.2.1 h.2.1)
      obtain ⟨q, hq⟩ : ∃ q, okF x k = q := ⟨_, rfl⟩
      have CF := enter_gf k hlt
      obtain ⟨g, hg⟩ : ∃ g, gf k = g := ⟨_, rfl⟩
      obtain ⟨v, hv⟩ : ∃ v, wv x k = v := ⟨_, rfl⟩
      have AD := Lib.hid (show ∀ V : World, Calls Tryd.prog 25 #[.agg Y.toArray, .int .u64 v] V fun e w' => e = .returned (.bool q) ∧ Bel V w' from fun V => by rw [HY.out, ← hq, ← hv]; exact admits _ _ _ _ _ _ _ V)
      rw [hg] at C3 GA CF
      rw [hv] at GA
      have HQ := Lib.hid hq
      have uF := Tryd.underlying62
      have iY := YI.out
      clear hq hg hv S0
      refine wp_region_held_drew (S := fun V => V.rangeAt f 0 Y ∧ V.rangeAt p 0 (recC x) ∧ V.cell? ⟨c, 0, none⟩ = some (.pointer (some ⟨p, k, none⟩)) ∧ Bel w1 V) (by kernel_rfl) S0d (fun hS0 => ?_)
      obtain ⟨w6, hw6⟩ : ∃ w6, V.drew = w6 := ⟨_, rfl⟩
      rw [hw6] at hS0 ⊢
      clear hw6 S0d
      refine wpAnyH_take (i := 0) (oi := { dst := some 13, op := .load 62 (.tmp 5), type := 62, pos := "params.go:35", after := #[], guard := none }) (v := .agg Y.toArray) rfl (by kernel_rfl) (by kernel_rfl) (by kernel_rfl) (fun _ _ _ h => h) (yieldsIf_load_mid (by rfl) _ _ rfl _ _ rfl _ _ (fun w h => h.1) uF rfl iY) hS0 ?_
      try simp only [Act.put, List.setIfInBounds_toArray, List.set_cons_zero, List.set_cons_succ]
      refine wpAnyH_take (i := 1) (oi := { dst := some 14, op := .fieldAddr 62 (.tmp 5) 3, type := 0, pos := "params.go:35", after := #[], guard := none }) (v := .pointer (some ⟨f, 3, none⟩)) rfl (by kernel_rfl) (by kernel_rfl) (by kernel_rfl) (fun _ _ _ h => h) (Or.inl ⟨by rfl, by intro w hSw; clear hSw; go_simp⟩) hS0 ?_
      try simp only [Act.put, List.setIfInBounds_toArray, List.set_cons_zero, List.set_cons_succ]
      refine wpAnyH_take (i := 2) (oi := { dst := some 15, op := .load 59 (.tmp 14), type := 59, pos := "params.go:35", after := #[{ on := 1, ground := .data }], guard := none }) (v := .func (.func g) #[] #[.pointer (some ⟨c, 0, none⟩)]) rfl (by kernel_rfl) (by kernel_rfl) (by kernel_rfl) (fun _ _ _ h => h) (Or.inl ⟨by rfl, by intro w h; have hcell := (C3.out _ h.1); clear h; go_simp⟩) hS0 ?_
      try simp only [Act.put, List.setIfInBounds_toArray, List.set_cons_zero, List.set_cons_succ]
      refine wpAnyH_ready (rs := [3]) (by kernel_rfl) (by simp) ?_
      refine AllReadyH.cons (o := { dst := some 16, op := .call { callee := .value (.tmp 15), args := #[], argTypes := #[] }, type := 23, pos := "params.go:35", after := #[{ on := 2, ground := .data }], guard := none }) rfl (fun K hK => ?_) AllReadyH.nil
      go_simp
      refine (GA.out _ hS0).mono ?_
      rintro e v1 ⟨rfl, rfl⟩
      go_wp2_with fail
      refine hK.out _ _ (hS0) (fun hS1 => ?_)
      clear hK K
      try simp only [Act.put, List.setIfInBounds_toArray, List.set_cons_zero, List.set_cons_succ]
      refine wpAnyH_ready (rs := [4]) (by kernel_rfl) (by simp) ?_
      refine AllReadyH.cons (o := { dst := some 17, op := .call { callee := .value (.func 25), args := #[.tmp 13, .tmp 16], argTypes := #[62, 23] }, type := 4, pos := "params.go:35", after := #[{ on := 0, ground := .data }, { on := 3, ground := .data }, { on := 3, ground := .chain }], guard := none }) rfl (fun K hK => ?_) AllReadyH.nil
      go_simp
      refine (AD.out _).mono ?_
      rintro e v2 ⟨rfl, k2⟩
      go_wp2_with fail
      refine hK.out _ _ (KEEP.out _ _ hS1 k2) (fun hS2 => ?_)
      clear hK K
      try simp only [Act.put, List.setIfInBounds_toArray, List.set_cons_zero, List.set_cons_succ]
      refine wpAnyH_take (i := 5) (oi := { dst := some 18, op := .unOp .not 4 (.tmp 17), type := 4, pos := "params.go:35", after := #[{ on := 4, ground := .data }], guard := none }) (v := .bool (!q)) rfl (by kernel_rfl) (by kernel_rfl) (by kernel_rfl) (fun _ _ _ h => h) (Or.inl ⟨by rfl, by intro w hSw; clear hSw; go_simp⟩) hS2 ?_
      try simp only [Act.put, List.setIfInBounds_toArray, List.set_cons_zero, List.set_cons_succ]
      refine wpAnyH_done (by kernel_rfl) ?_ _
      have B4 := Lib.hid hS2.2.2.2
      clear CF C3 GA AD KEEP uF iY hS0 hS1 hS2 k2
      cases q with
      | false =>
        go_wp2_with fail
        go_ret2
        exact ⟨3, (k : Int), rfl, .inl ⟨k, hlt, HA.out, HQ.out, rfl, rfl⟩, (B0.out.trans B1.out).trans B4.out⟩
      | true =>
        go_wp2_with fail
        go_roundw
        case rel => exact ⟨k + 1, by go_num, by omega, upto_succ HA.out HQ.out, B4.out⟩
        case measure => simp [intOf]; omega
    · obtain rfl : k = 11 := by omega
      have R2 := Lib.hid (rng_bel (rng_bel R0.out B1.out) KB.out)
      rw [← HD.out] at R2
      have ORD := Lib.hid (ordered x)
      rw [← HD.out] at ORD
      by_cases ho : x 1 ≤ x 0
      · have hd : decide (x 1 ≤ x 0) = true := by simpa using ho
        go_wp2_with (first | (refine wpList_load_mid rfl 26 (.tmp 1) rfl p 0 rfl D _ R2.out Tryd.underlying26 rfl (by rw [HDl.out]; exact info_rec) ?_) | (go_at_call 26; refine (ORD.out wr).mono ?_; rintro e w2 ⟨rfl, k2⟩; have B2 : Hid (Bel wr w2) := Lib.hid k2; clear k2))
        go_ret2
        exact ⟨0, 0, rfl, .inr (.inr ⟨HA.out, ho, rfl, rfl⟩), ((B0.out.trans B1.out).trans KB.out).trans B2.out⟩
      · have hd : decide (x 1 ≤ x 0) = false := by simpa using ho
        go_wp2_with (first | (refine wpList_load_mid rfl 26 (.tmp 1) rfl p 0 rfl D _ R2.out Tryd.underlying26 rfl (by rw [HDl.out]; exact info_rec) ?_) | (go_at_call 26; refine (ORD.out wr).mono ?_; rintro e w2 ⟨rfl, k2⟩; have B2 : Hid (Bel wr w2) := Lib.hid k2; clear k2))
        go_ret2
        exact ⟨9, 1, rfl, .inr (.inl ⟨HA.out, by omega, rfl, rfl⟩), ((B0.out.trans B1.out).trans KB.out).trans B2.out⟩
end Pm
end Go.Proofs.YtkblbcdinibncaaDoor
end

section
/-
  What params.find answers in this program: the field of that name, if the record is valid.
  Conditions: the eleven numbers lie in memory, and are of their kinds.
-/
namespace Go.Proofs.YtkblbcdinibncaaDoor
open Go.RowKit Go.Shelf
set_option linter.unusedVariables false
namespace Pm
open Kk

abbrev Z5 : List Value := [.string ⟨#[]⟩, .int .u64 0, .int .u64 0, .nilFunc, .nilFunc]
/-- Why find answers no field: Check's error, or that the name is no field's. -/
def FErr (x : Nat → Int) (s : ByteArray) (e : Int) : Prop := (∃ b, Chk x e b) ∨ (Chk x 0 0 ∧ (∀ j, j < 11 → nm j ≠ s) ∧ e = 10)
def FOk (x : Nat → Int) (s : ByteArray) (p n : Nat) (F : List Value) (w' : World) : Prop :=
  Chk x 0 0 ∧ ∃ i c, i < 11 ∧ nm i = s ∧ (∀ j, j < i → nm j ≠ s) ∧ F = fldC (nm i) (lo i) (hi i) (gf i) (sf i) c ∧ w'.cell? ⟨c, 0, none⟩ = some (.pointer (some ⟨p, i, none⟩)) ∧ n ≤ c
def FindE (x : Nat → Int) (s : ByteArray) (p : Nat) (w : World) (e : Ending) (w' : World) : Prop :=
  ∃ a F, e = .returned (.tuple #[.agg (List.toArray F), .int .i64 a]) ∧ F.length = 5 ∧ (∀ u ∈ F, Value.oneCell' u = true) ∧ Bel w w' ∧ ((a = 0 ∧ FOk x s p w.heap.size F w') ∨ (a ≠ 0 ∧ F = Z5 ∧ FErr x s a))
theorem Chk.zero {x : Nat → Int} {b : Int} (h : Chk x 0 b) : b = 0 := by
  rcases h with ⟨_, _, _, _, h, _⟩ | ⟨_, _, h, _⟩ | ⟨_, _, _, h⟩
  · omega
  · omega
  · exact h
theorem Z5_cells : ∀ u ∈ Z5, Value.oneCell' u = true := by
  intro u hu
  simp at hu
  rcases hu with rfl | rfl | rfl <;> rfl

set_option maxRecDepth 100000 in
set_option maxHeartbeats 4000000 in
theorem find (x : Nat → Int) (hx : Kinds x) (s : ByteArray) (p : Nat) (w : World) (hr : w.rangeAt p 0 (recC x)) : Calls Tryd.prog 27 #[.pointer (some ⟨p, 0, none⟩), .string s] w (FindE x s p w) := by
  obtain ⟨D, hD⟩ : ∃ D, D = recC x := ⟨_, rfl⟩
  have HDl := Lib.hid (show D.length = 11 by rw [hD]; rfl)
  obtain ⟨W, hW⟩ : ∃ W, w.alloc ZF = W := ⟨_, rfl⟩
  have B0 := Lib.hid (show Bel w W by rw [← hW]; exact (Bel.refl w).alloc _)
  have K0 := Lib.hid (show Blk W w.heap.size Z5.toArray 62 by rw [← hW]; exact Blk.new w _ _)
  have R0 := Lib.hid (show W.rangeAt p 0 D by rw [hD]; exact rng_bel hr B0.out)
  obtain ⟨q, hq⟩ : ∃ q, w.heap.size = q := ⟨_, rfl⟩
  rw [hq] at K0
  have HX := Lib.hid (check x hx)
  rw [← hD] at HX
  have HR := Lib.hid hr
  have HQ := Lib.hid hq
  have HW := Lib.hid hW
  clear hx hr hq hW hD
  go_enter Tryd.func27, Tryd.ntmps27
  go_upto_region 1 with fail
  rw [HW.out, HQ.out]
  go_wp2_with (refine wpList_load_mid rfl 26 (.tmp 12) rfl p 0 rfl D _ R0.out Tryd.underlying26 rfl (by rw [HDl.out]; exact info_rec) ?_)
  refine (HX.out W).mono ?_
  rintro e w1 ⟨a, b, rfl, hC, k1⟩
  have B1 : Hid (Bel W w1) := Lib.hid k1
  have C1 := Lib.hid hC
  have K1 := Lib.hid (K0.out.bel k1)
  clear k1 hC
  by_cases ha : a = 0
  · subst ha
    obtain rfl := C1.out.zero
    go_wp2_with fail
    refine (fieldsR p w1).mono ?_
    rintro e w2 ⟨b, rfl, hF, k2⟩
    have B2 : Hid (Bel w1 w2) := Lib.hid k2
    have F2 := Lib.hid hF
    have K2 := Lib.hid (K1.out.bel k2)
    clear k2 hF
    go_wp2_with fail
    go_loopw [24] (fun u24 wr => ∃ k : Nat, u24 = .int .i64 k ∧ k ≤ 11 ∧ (∀ j, j < k → nm j ≠ s) ∧ Bel w2 wr) (fun u24 _ => 11 - (intOf u24).toNat)
    case atStart => exact ⟨0, rfl, by omega, fun j hj => by omega, Bel.refl _⟩
    case round =>
      obtain ⟨k, rfl, hk, hall, hb⟩ := hrel
      have HA := Lib.hid hall
      clear hall
      have KB := Lib.hid hb
      clear hb
      by_cases hlt : k < 11
      · obtain ⟨c, h1, h2, h3⟩ := (F2.out.bel KB.out).all k hlt
        have hY0 : ∃ Y, Y = fldC (nm k) (lo k) (hi k) (gf k) (sf k) c := ⟨_, rfl⟩
        obtain ⟨Y, hY⟩ := hY0
        rw [← hY] at h1
        have HYl := Lib.hid (show Y.length = 5 by rw [hY]; rfl)
        have YI := Lib.hid (show (Tryd.prog.info? 62).map (·.size) = some Y.length by rw [HYl.out]; exact info_fld)
        have YI2 := Lib.hid (show (Tryd.prog.info? 62).map (·.size) = some Y.toArray.size by rw [List.size_toArray]; exact YI.out)
        have YC := Lib.hid (show ∀ u ∈ Y, u.oneCell' = true by rw [hY]; exact fldC_cells _ _ _ _ _ _)
        have YO := Lib.hid (all_oneCell_toArray YC.out)
        have HY := Lib.hid hY
        have R1 := Lib.hid h1
        obtain ⟨p1, p2, p3⟩ := put5 wr Y HYl.out
        have P1 := Lib.hid p1
        have P2 := Lib.hid p2
        have P3 := Lib.hid p3
        have C2 := Lib.hid h2
        have H3 := Lib.hid h3
        clear h1 h2 h3 p1 p2 p3 hY
        go_upto_region 7 with (first | (refine wpList_load_mid rfl 62 (.tmp 26) rfl b (k * 5) rfl Y _ R1.out Tryd.underlying62 rfl YI.out ?_) | (refine wpList_store_mid rfl 62 (.tmp 9) (.tmp 27) rfl wr.heap.size 0 Y.toArray rfl rfl P1.out YI2.out YO.out ?_))
        obtain ⟨f, hf⟩ : ∃ f, wr.heap.size = f := ⟨_, rfl⟩
        obtain ⟨V, hV⟩ : ∃ V, (wr.alloc ZF).setCells wr.heap.size 0 Y = V := ⟨_, rfl⟩
        have hV' := hV
        rw [hf] at hV' ⊢
        rw [hV] at P2 P3
        rw [hf] at P3
        rw [hV']
        clear hV hV' hf
        have hcell := P3.out.cell 0 (v := .string (nm k)) (by rw [HY.out]; rfl)
        go_upto_if 31 with fail
        by_cases he : nm k = s
        · have hb : ((nm k).toList == s.toList) = true := (Lib.bytes_beq_iff _ _).2 he
          rw [hb]
          clear hb
          have HE := Lib.hid he
          have K4 := Lib.hid (show Blk V q Z5.toArray 62 from (K2.out.bel KB.out).bel P2.out)
          have TH := Lib.hid (show V.there q 0 Y.toArray.size from bthere K4.out 0 _ (by rw [List.size_toArray, HYl.out]; exact Nat.le_refl _))
          have K5 := Lib.hid (show Blk (V.setCells q 0 Y) q Y.toArray 62 from bwhole K4.out (by rw [HYl.out]; rfl))
          have RF := Lib.hid (rngB P3.out)
          have BV := Lib.hid (show Bel w V from (((B0.out.trans B1.out).trans B2.out).trans KB.out).trans P2.out)
          clear he hcell
          go_wp2_with (first | (refine wpList_load_mid rfl 62 (.tmp 9) rfl f 0 rfl Y _ RF.out Tryd.underlying62 rfl YI.out ?_) | (refine wpList_store_mid rfl 62 (.tmp 4) (.tmp 32) rfl q 0 Y.toArray rfl rfl TH.out YI2.out YO.out ?_))
          have hcq : c ≠ q := by
            have h3 := H3.out
            have h4 := Below.size B0.out
            have h5 := Below.size B1.out
            have h6 := (K0.out).lt
            have h7 := HQ.out
            omega
          refine bodyPost_ret (res_ci Tryd.results27 _ _ ⟨q, 0, none⟩ (.agg Y.toArray) (.int .i64 0) rfl rfl (load_b K5.out Tryd.underlying62 rfl YI.out)) rfl ⟨0, Y, rfl, HYl.out, YC.out, bel_setCells BV.out (by rw [HQ.out]; exact Nat.le_refl _) 0 Y, .inl ⟨rfl, C1.out, k, c, hlt, HE.out, HA.out, HY.out, ?_, ?_⟩⟩
          · exact cell_kep (cell_bel C2.out P2.out) (kep_setCells q Y 0 V) hcq
          · have h3 := H3.out
            have h4 := Below.size B0.out
            have h5 := Below.size B1.out
            omega
        · have hb : ((nm k).toList == s.toList) = false := (Lib.bytes_beq_false_iff _ _).2 he
          rw [hb]
          clear hb
          have HE := Lib.hid he
          clear he hcell
          go_wp2_with fail
          refine ⟨⟨k + 1, by go_num, by omega, fun j hj => ?_, KB.out.trans P2.out⟩, ?_⟩
          · by_cases e : j = k
            · rw [e]; exact HE.out
            · exact HA.out j (by omega)
          · simp [intOf]; omega
      · obtain rfl : k = 11 := by omega
        have K6 := Lib.hid (K2.out.bel KB.out)
        obtain ⟨Z, hZ⟩ : ∃ Z, Z = Z5 := ⟨_, rfl⟩
        have ZL := Lib.hid (show Z.toArray.size = 5 by rw [hZ]; rfl)
        have ZC := Lib.hid (show ∀ u ∈ Z, u.oneCell' = true by rw [hZ]; exact Z5_cells)
        have TH := Lib.hid (show wr.there q 0 Z.toArray.size from bthere K6.out 0 _ (by rw [ZL.out]; exact Nat.le_refl _))
        have K3 := Lib.hid (show Blk (wr.setCells q 0 Z) q Z.toArray 62 from bwhole K6.out (by rw [hZ]; rfl))
        have ZI := Lib.hid (show (Tryd.prog.info? 62).map (·.size) = some Z.length by rw [hZ]; exact info_fld)
        have ZI2 := Lib.hid (show (Tryd.prog.info? 62).map (·.size) = some Z.toArray.size by rw [ZL.out]; exact info_fld)
        have HZ := Lib.hid hZ
        have hza : Z.toArray = #[.string ⟨#[]⟩, .int .u64 0, .int .u64 0, .nilFunc, .nilFunc] := by rw [hZ]
        have HZA := Lib.hid hza
        clear hZ hza
        go_wp2_with (refine wpList_store_mid rfl 62 (.tmp 4) (.tmp 34) rfl q 0 Z.toArray rfl (by rw [HZA.out]; rfl) TH.out ZI2.out (all_oneCell_toArray ZC.out) ?_)
        refine bodyPost_ret (res_ci Tryd.results27 _ _ ⟨q, 0, none⟩ (.agg Z.toArray) (.int .i64 10) rfl rfl (load_b K3.out Tryd.underlying62 rfl ZI.out)) rfl ⟨10, Z, rfl, by simpa using ZL.out, ZC.out, bel_setCells (((B0.out.trans B1.out).trans B2.out).trans KB.out) (by rw [HQ.out]; exact Nat.le_refl _) 0 Z, .inr ⟨by omega, HZ.out, .inr ⟨C1.out, HA.out, rfl⟩⟩⟩
  · obtain ⟨Z, hZ⟩ : ∃ Z, Z = Z5 := ⟨_, rfl⟩
    have ZL := Lib.hid (show Z.toArray.size = 5 by rw [hZ]; rfl)
    have ZC := Lib.hid (show ∀ u ∈ Z, u.oneCell' = true by rw [hZ]; exact Z5_cells)
    have TH := Lib.hid (show w1.there q 0 Z.toArray.size from bthere K1.out 0 _ (by rw [ZL.out]; exact Nat.le_refl _))
    have K3 := Lib.hid (show Blk (w1.setCells q 0 Z) q Z.toArray 62 from bwhole K1.out (by rw [hZ]; rfl))
    have ZI := Lib.hid (show (Tryd.prog.info? 62).map (·.size) = some Z.length by rw [hZ]; exact info_fld)
    have ZI2 := Lib.hid (show (Tryd.prog.info? 62).map (·.size) = some Z.toArray.size by rw [ZL.out]; exact info_fld)
    have HZ := Lib.hid hZ
    have hza : Z.toArray = #[.string ⟨#[]⟩, .int .u64 0, .int .u64 0, .nilFunc, .nilFunc] := by rw [hZ]
    have HZA := Lib.hid hza
    clear hZ hza
    go_wp2_with (refine wpList_store_mid rfl 62 (.tmp 4) (.tmp 19) rfl q 0 Z.toArray rfl (by rw [HZA.out]; rfl) TH.out ZI2.out (all_oneCell_toArray ZC.out) ?_)
    refine bodyPost_ret (res_ci Tryd.results27 _ _ ⟨q, 0, none⟩ (.agg Z.toArray) (.int .i64 a) rfl rfl (load_b K3.out Tryd.underlying62 rfl ZI.out)) rfl ⟨a, Z, rfl, by simpa using ZL.out, ZC.out, bel_setCells (B0.out.trans B1.out) (by rw [HQ.out]; exact Nat.le_refl _) 0 Z, .inr ⟨ha, HZ.out, .inl ⟨b, C1.out⟩⟩⟩
end Pm
end Go.Proofs.YtkblbcdinibncaaDoor
end

section
/-
  What params.Get answers in this program. Conditions: the eleven numbers are of their kinds.
-/
namespace Go.Proofs.YtkblbcdinibncaaDoor
open Go.RowKit Go.Shelf
set_option linter.unusedVariables false
namespace Pm
open Kk

/-- The number of the field of that name, the first one. -/
def At (s : ByteArray) (i : Nat) : Prop := i < 11 ∧ nm i = s ∧ ∀ j, j < i → nm j ≠ s
/-- What Get answers. -/
def Gt (x : Nat → Int) (s : ByteArray) (n a : Int) : Prop := (a = 0 ∧ Chk x 0 0 ∧ ∃ i, At s i ∧ n = wv x i) ∨ (a ≠ 0 ∧ n = 0 ∧ FErr x s a)
def GetE (x : Nat → Int) (s : ByteArray) (w : World) (e : Ending) (w' : World) : Prop := ∃ n a, e = .returned (.tuple #[.int .u64 n, .int .i64 a]) ∧ Gt x s n a ∧ Bel w w'

set_option maxRecDepth 100000 in
set_option maxHeartbeats 4000000 in
theorem get (x : Nat → Int) (hx : Kinds x) (s : ByteArray) (w : World) : Calls Tryd.prog 12 #[.agg (recC x).toArray, .string s] w (GetE x s w) := by
  obtain ⟨D, hD⟩ : ∃ D, D = recC x := ⟨_, rfl⟩
  obtain ⟨W, hW⟩ : ∃ W, w.alloc (.cells D.toArray 26) = W := ⟨_, rfl⟩
  have B0 := Lib.hid (show Bel w W by rw [← hW]; exact (Bel.refl w).alloc _)
  have R0 := Lib.hid (show W.rangeAt w.heap.size 0 (recC x) by rw [← hW, hD]; exact rngB (Blk.new w (recC x).toArray 26))
  obtain ⟨p, hp⟩ : ∃ p, w.heap.size = p := ⟨_, rfl⟩
  rw [hp] at R0
  rw [← hD]
  have HX := Lib.hid hx
  have HP := Lib.hid hp
  have HW := Lib.hid hW
  clear hx hp hD hW
  go_enter Tryd.func12, Tryd.ntmps12
  go_upto_region 1 with fail
  rw [HW.out, HP.out]
  go_wp2_with fail
  refine (find x HX.out s p W R0.out).mono ?_
  rintro e w1 ⟨a, F, rfl, hl, hc, k1, hF⟩
  have B1 : Hid (Bel W w1) := Lib.hid k1
  have FI := Lib.hid (show (Tryd.prog.info? 62).map (·.size) = some F.length by rw [hl]; exact info_fld)
  have FI2 := Lib.hid (show (Tryd.prog.info? 62).map (·.size) = some F.toArray.size by rw [List.size_toArray, hl]; exact info_fld)
  have FO := Lib.hid (all_oneCell_toArray hc)
  obtain ⟨p1, p2, p3⟩ := put5 w1 F hl
  have P1 := Lib.hid p1
  have P2 := Lib.hid p2
  have P3 := Lib.hid p3
  have HF := Lib.hid hF
  clear hl hc k1 hF p1 p2 p3
  go_upto_region 2 with (refine wpList_store_mid rfl 62 (.tmp 6) (.tmp 11) rfl w1.heap.size 0 F.toArray rfl rfl P1.out FI2.out FO.out ?_)
  obtain ⟨f, hf⟩ : ∃ f, w1.heap.size = f := ⟨_, rfl⟩
  obtain ⟨V, hV⟩ : ∃ V, (w1.alloc ZF).setCells w1.heap.size 0 F = V := ⟨_, rfl⟩
  have hV' := hV
  rw [hf] at hV' ⊢
  rw [hV] at P2 P3
  rw [hf] at P3
  rw [hV']
  clear hV hV' hf
  rcases HF.out with ⟨rfl, hC, i, c, hi, hn, hfst, hFe, hcc, hge⟩ | ⟨ha, hFe, herr⟩
  · have hcell := P3.out.cell 3 (v := .func (.func (gf i)) #[] #[.pointer (some ⟨c, 0, none⟩)]) (by rw [hFe]; rfl)
    have CF := enter_gf i hi
    have GA := Lib.hid (getAt c p i x V hi (cell_bel hcc P2.out) (rng_bel (rng_bel R0.out B1.out) P2.out))
    have HN := Lib.hid (show At s i from ⟨hi, hn, hfst⟩)
    have HC := Lib.hid hC
    obtain ⟨v, hv⟩ : ∃ v, wv x i = v := ⟨_, rfl⟩
    obtain ⟨g, hg⟩ : ∃ g, gf i = g := ⟨_, rfl⟩
    rw [hg] at hcell CF GA
    rw [hv] at GA
    have HV := Lib.hid hv
    clear hi hn hfst hFe hcc hge hC hv hg
    go_wp2_with fail
    refine GA.out.mono ?_
    rintro e w2 ⟨rfl, rfl⟩
    go_wp2_with fail
    go_ret2
    exact ⟨v, 0, rfl, .inl ⟨rfl, HC.out, i, HN.out, HV.out.symm⟩, (B0.out.trans B1.out).trans P2.out⟩
  · have HE := Lib.hid herr
    clear hFe herr
    go_wp2_with fail
    go_ret2
    exact ⟨0, a, rfl, .inr ⟨ha, rfl, HE.out⟩, (B0.out.trans B1.out).trans P2.out⟩
end Pm
end Go.Proofs.YtkblbcdinibncaaDoor
end

section
/-
  What params.Set answers in this program. Conditions: the eleven numbers are of their kinds; the number that is set is below 2^64.
-/
namespace Go.Proofs.YtkblbcdinibncaaDoor
open Go.RowKit Go.Shelf
set_option linter.unusedVariables false
namespace Pm
open Kk

def upd (x : Nat → Int) (i : Nat) (v : Int) : Nat → Int := fun j => if j = i then v else x j
/-- What the second closure of the field i lays there. -/
def sv (i : Nat) (n : Int) : Int := if isU i then n else wrap64 n
theorem kinds_upd {x : Nat → Int} (h : Kinds x) (i : Nat) (n : Int) (h0 : 0 ≤ n) (h1 : n ≤ 18446744073709551615) : Kinds (upd x i (sv i n)) := by
  intro j hj
  unfold upd
  by_cases e : j = i
  · rw [if_pos e]
    subst e
    unfold sv
    cases hu : isU j with
    | true =>
      refine ⟨fun _ => ?_, fun hh => Bool.noConfusion hh⟩
      rw [if_pos rfl]
      exact ⟨h0, h1⟩
    | false =>
      refine ⟨fun hh => Bool.noConfusion hh, fun _ => ?_⟩
      rw [if_neg Bool.false_ne_true]
      unfold wrap64
      omega
  · rw [if_neg e]
    exact h j hj
theorem rec_upd (x : Nat → Int) (i : Nat) (hi : i < 11) (v : Int) : (recC x).toArray.setIfInBounds i (.int (kd i) v) = (recC (upd x i v)).toArray := by
  match i, hi with
  | 0, _ => rfl
  | 1, _ => rfl
  | 2, _ => rfl
  | 3, _ => rfl
  | 4, _ => rfl
  | 5, _ => rfl
  | 6, _ => rfl
  | 7, _ => rfl
  | 8, _ => rfl
  | 9, _ => rfl
  | 10, _ => rfl
  | n + 11, h => omega
theorem sf_or (i : Nat) (hi : i < 11) : sf i = 55 ∨ sf i = 57 := by
  match i, hi with
  | 0, _ => exact .inl rfl
  | 1, _ => exact .inl rfl
  | 2, _ => exact .inl rfl
  | 3, _ => exact .inl rfl
  | 4, _ => exact .inl rfl
  | 5, _ => exact .inl rfl
  | 6, _ => exact .inl rfl
  | 7, _ => exact .inr rfl
  | 8, _ => exact .inr rfl
  | 9, _ => exact .inl rfl
  | 10, _ => exact .inr rfl
  | n + 11, h => omega
theorem enter_sf (i : Nat) (hi : i < 11) (args : Array Value) (w : World) : (callFunc (sf i) args).run Tryd.prog w = .ok (.enter (sf i) args) w := by
  rcases sf_or i hi with h | h
  · rw [h]
    go_simp
  · rw [h]
    go_simp
/-- The second closure of the field i. -/
theorem setAt (c p i : Nat) (x : Nat → Int) (n : Int) (w : World) (hi : i < 11) (hc : w.cell? ⟨c, 0, none⟩ = some (.pointer (some ⟨p, i, none⟩))) (hr : Blk w p (recC x).toArray 26) :
    Calls Tryd.prog (sf i) #[.int .u64 n, .pointer (some ⟨c, 0, none⟩)] w fun e w' => e = .returned (.tuple #[]) ∧ Blk w' p (recC (upd x i (sv i n))).toArray 26 ∧ Kep (fun k => k = p) w w' := by
  have hv := rec_cell (rngB hr) i hi
  have hf := hr.frozen i
  have hK := Kep.set_self (Kep.refl (fun k => k = p) w) i (.int (kd i) (sv i n))
  have hB := hr.set i (.int (kd i) (sv i n))
  rw [rec_upd x i hi] at hB
  match i, hi with
  | 0, _ => exact (setI c p _ _ n w hc hv hf).mono fun e w' h => ⟨h.1, by rw [h.2]; exact hB, by rw [h.2]; exact hK⟩
  | 1, _ => exact (setI c p _ _ n w hc hv hf).mono fun e w' h => ⟨h.1, by rw [h.2]; exact hB, by rw [h.2]; exact hK⟩
  | 2, _ => exact (setI c p _ _ n w hc hv hf).mono fun e w' h => ⟨h.1, by rw [h.2]; exact hB, by rw [h.2]; exact hK⟩
  | 3, _ => exact (setI c p _ _ n w hc hv hf).mono fun e w' h => ⟨h.1, by rw [h.2]; exact hB, by rw [h.2]; exact hK⟩
  | 4, _ => exact (setI c p _ _ n w hc hv hf).mono fun e w' h => ⟨h.1, by rw [h.2]; exact hB, by rw [h.2]; exact hK⟩
  | 5, _ => exact (setI c p _ _ n w hc hv hf).mono fun e w' h => ⟨h.1, by rw [h.2]; exact hB, by rw [h.2]; exact hK⟩
  | 6, _ => exact (setI c p _ _ n w hc hv hf).mono fun e w' h => ⟨h.1, by rw [h.2]; exact hB, by rw [h.2]; exact hK⟩
  | 7, _ => exact (setU c p _ _ n w hc hv hf).mono fun e w' h => ⟨h.1, by rw [h.2]; exact hB, by rw [h.2]; exact hK⟩
  | 8, _ => exact (setU c p _ _ n w hc hv hf).mono fun e w' h => ⟨h.1, by rw [h.2]; exact hB, by rw [h.2]; exact hK⟩
  | 9, _ => exact (setI c p _ _ n w hc hv hf).mono fun e w' h => ⟨h.1, by rw [h.2]; exact hB, by rw [h.2]; exact hK⟩
  | 10, _ => exact (setU c p _ _ n w hc hv hf).mono fun e w' h => ⟨h.1, by rw [h.2]; exact hB, by rw [h.2]; exact hK⟩
  | n + 11, h => omega

def zr : Nat → Int := fun _ => 0
/-- What Set answers: the record y, or why none. -/
def St (x : Nat → Int) (s : ByteArray) (n : Int) (y : Nat → Int) (a : Int) : Prop :=
  (a = 0 ∧ Chk x 0 0 ∧ ∃ i, At s i ∧ y = upd x i (sv i n) ∧ Chk y 0 0) ∨ (a ≠ 0 ∧ y = zr ∧ (FErr x s a ∨ (Chk x 0 0 ∧ ∃ i b, At s i ∧ Chk (upd x i (sv i n)) a b)))
def SetE (x : Nat → Int) (s : ByteArray) (n : Int) (w : World) (e : Ending) (w' : World) : Prop := ∃ y a, e = .returned (.tuple #[.agg (List.toArray (recC y)), .int .i64 a]) ∧ St x s n y a ∧ Bel w w'

/-- A record stored into the result's cell. -/
theorem store_rec {w : World} {r : Nat} {y z : Nat → Int} (h : Blk w r (recC y).toArray 26) : w.there r 0 (recC z).toArray.size ∧ Blk (w.setCells r 0 (recC z)) r (recC z).toArray 26 :=
  ⟨bthere h 0 _ (Nat.le_refl 11), bwhole h rfl⟩

set_option maxRecDepth 100000 in
set_option maxHeartbeats 4000000 in
theorem set (x : Nat → Int) (hx : Kinds x) (s : ByteArray) (n : Int) (h0 : 0 ≤ n) (h1 : n ≤ 18446744073709551615) (w : World) : Calls Tryd.prog 11 #[.agg (recC x).toArray, .string s, .int .u64 n] w (SetE x s n w) := by
  obtain ⟨D, hD⟩ : ∃ D, D = recC x := ⟨_, rfl⟩
  obtain ⟨Z, hZ⟩ : ∃ Z, Z = recC zr := ⟨_, rfl⟩
  have HZI := Lib.hid (show (Tryd.prog.info? 26).map (·.size) = some Z.length by rw [hZ]; exact info_rec)
  have HZI2 := Lib.hid (show (Tryd.prog.info? 26).map (·.size) = some Z.toArray.size by rw [hZ]; exact info_rec)
  have HZO := Lib.hid (all_oneCell_toArray (cs := Z) (by rw [hZ]; exact recC_cells _))
  obtain ⟨W, hW⟩ : ∃ W, (w.alloc (.cells D.toArray 26)).alloc (.cells #[.int .i64 0, .int .i64 0, .int .i64 0, .int .i64 0, .int .i64 0, .int .i64 0, .int .i64 0, .int .u64 0, .int .u64 0, .int .i64 0, .int .u64 0] 26) = W := ⟨_, rfl⟩
  have B0 := Lib.hid (show Bel w W by rw [← hW]; exact ((Bel.refl w).alloc _).alloc _)
  have b0 : Blk W w.heap.size (recC x).toArray 26 := by rw [← hW, hD]; exact (Blk.new w (recC x).toArray 26).alloc _
  have b1 : Blk W (w.heap.size + 1) (recC zr).toArray 26 := by
    have h := Blk.new (w.alloc (.cells D.toArray 26)) (recC zr).toArray 26
    rw [World.size_alloc] at h
    rw [← hW]
    exact h
  obtain ⟨p, hp⟩ : ∃ p, w.heap.size = p := ⟨_, rfl⟩
  obtain ⟨r, hr⟩ : ∃ r, w.heap.size + 1 = r := ⟨_, rfl⟩
  rw [hp] at b0
  rw [hr] at b1
  have HPR := Lib.hid (show p ≠ r ∧ w.heap.size ≤ p ∧ w.heap.size ≤ r ∧ p < W.heap.size ∧ r < W.heap.size from ⟨by omega, by omega, by omega, b0.lt, b1.lt⟩)
  have K0 := Lib.hid b0
  have K1 := Lib.hid b1
  rw [← hD]
  have HX := Lib.hid hx
  have HP := Lib.hid hp
  have HR := Lib.hid hr
  have HW := Lib.hid hW
  have HN := Lib.hid (kinds_upd hx · n h0 h1)
  have HZ := Lib.hid hZ
  have hza : Z.toArray = #[.int .i64 0, .int .i64 0, .int .i64 0, .int .i64 0, .int .i64 0, .int .i64 0, .int .i64 0, .int .u64 0, .int .u64 0, .int .i64 0, .int .u64 0] := by rw [hZ]; rfl
  have HZA := Lib.hid hza
  clear hx hp hr hD hW b0 b1 h0 h1 hZ hza
  go_enter Tryd.func11, Tryd.ntmps11
  go_upto_region 1 with fail
  rw [HW.out, HR.out, HP.out]
  go_wp2_with fail
  refine (find x HX.out s p W (rngB K0.out)).mono ?_
  rintro e w1 ⟨a, F, rfl, hl, hc, k1, hF⟩
  have B1 : Hid (Bel W w1) := Lib.hid k1
  have FI2 := Lib.hid (show (Tryd.prog.info? 62).map (·.size) = some F.toArray.size by rw [List.size_toArray, hl]; exact info_fld)
  have FO := Lib.hid (all_oneCell_toArray hc)
  obtain ⟨p1, p2, p3⟩ := put5 w1 F hl
  have P1 := Lib.hid p1
  have P2 := Lib.hid p2
  have P3 := Lib.hid p3
  have HF := Lib.hid hF
  clear hl hc k1 hF p1 p2 p3
  go_upto_region 2 with (refine wpList_store_mid rfl 62 (.tmp 8) (.tmp 15) rfl w1.heap.size 0 F.toArray rfl rfl P1.out FI2.out FO.out ?_)
  obtain ⟨f, hf⟩ : ∃ f, w1.heap.size = f := ⟨_, rfl⟩
  obtain ⟨V, hV⟩ : ∃ V, (w1.alloc ZF).setCells w1.heap.size 0 F = V := ⟨_, rfl⟩
  have hV' := hV
  rw [hf] at hV' ⊢
  rw [hV] at P2 P3
  rw [hf] at P3
  rw [hV']
  clear hV hV' hf
  have BV := Lib.hid ((B0.out.trans B1.out).trans P2.out)
  have K2 := Lib.hid ((K0.out.bel B1.out).bel P2.out)
  have K3 := Lib.hid ((K1.out.bel B1.out).bel P2.out)
  rcases HF.out with ⟨rfl, hC, i, c, hi, hn, hfst, hFe, hcc, hge⟩ | ⟨ha, hFe, herr⟩
  · have hcell := P3.out.cell 4 (v := .func (.func (sf i)) #[] #[.pointer (some ⟨c, 0, none⟩)]) (by rw [hFe]; rfl)
    have CF := enter_sf i hi
    have GA := Lib.hid (setAt c p i x n V hi (cell_bel hcc P2.out) K2.out)
    have HA := Lib.hid (show At s i from ⟨hi, hn, hfst⟩)
    have HC := Lib.hid hC
    obtain ⟨y, hy⟩ : ∃ y, upd x i (sv i n) = y := ⟨_, rfl⟩
    obtain ⟨g, hg⟩ : ∃ g, sf i = g := ⟨_, rfl⟩
    have HK := Lib.hid (HN.out i)
    rw [hg] at hcell CF GA
    rw [hy] at GA HK
    have HY := Lib.hid hy
    clear hi hn hfst hFe hcc hge hC hy hg
    go_wp2_with fail
    refine GA.out.mono ?_
    rintro e w2 ⟨rfl, b2, k2⟩
    have K4 := Lib.hid b2
    have K5 := Lib.hid (K3.out.kep k2 (Ne.symm HPR.out.1))
    have BW := Lib.hid (show Bel w w2 from Kep.bel BV.out k2 (fun k hk => by rw [hk]; exact HPR.out.2.1))
    clear b2 k2 hcell
    obtain ⟨E, hE⟩ : ∃ E, E = recC y := ⟨_, rfl⟩
    have HEl := Lib.hid (show E.length = 11 by rw [hE]; rfl)
    have RE := Lib.hid (show w2.rangeAt p 0 E by rw [hE]; exact rngB K4.out)
    have CE := Lib.hid (check y HK.out)
    rw [← hE] at CE
    have EI := Lib.hid (show (Tryd.prog.info? 26).map (·.size) = some E.length by rw [HEl.out]; exact info_rec)
    have EI2 := Lib.hid (show (Tryd.prog.info? 26).map (·.size) = some E.toArray.size by rw [List.size_toArray, HEl.out]; exact info_rec)
    have EO := Lib.hid (all_oneCell_toArray (cs := E) (by rw [hE]; exact recC_cells _))
    have HE := Lib.hid hE
    clear hE
    go_wp2_with (refine wpList_load_mid rfl 26 (.tmp 3) rfl p 0 rfl E _ RE.out Tryd.underlying26 rfl EI.out ?_)
    refine (CE.out w2).mono ?_
    rintro e w3 ⟨a, b, rfl, hC2, k3⟩
    have B3 : Hid (Bel w2 w3) := Lib.hid k3
    have K6 := Lib.hid (K5.out.bel k3)
    have HC2 := Lib.hid hC2
    have RE3 := Lib.hid (rng_bel RE.out k3)
    clear k3 hC2
    by_cases ha : a = 0
    · subst ha
      obtain rfl := HC2.out.zero
      obtain ⟨t1, t2⟩ := store_rec (z := y) K6.out
      rw [← HE.out] at t1 t2
      have T1 := Lib.hid t1
      have T2 := Lib.hid t2
      clear t1 t2
      go_wp2_with (first | (refine wpList_load_mid rfl 26 (.tmp 3) rfl p 0 rfl E _ RE3.out Tryd.underlying26 rfl EI.out ?_) | (refine wpList_store_mid rfl 26 (.tmp 6) (.tmp 34) rfl r 0 E.toArray rfl rfl T1.out EI2.out EO.out ?_))
      refine bodyPost_ret (res_ci Tryd.results11 _ _ ⟨r, 0, none⟩ (.agg E.toArray) (.int .i64 0) rfl rfl (load_b T2.out Tryd.underlying26 rfl EI.out)) rfl ⟨y, 0, by rw [HE.out], .inl ⟨rfl, HC.out, i, HA.out, HY.out.symm, HC2.out⟩, bel_setCells (BW.out.trans B3.out) HPR.out.2.2.1 0 E⟩
    · obtain ⟨t1, t2⟩ := store_rec (z := zr) K6.out
      rw [← HZ.out] at t1 t2
      have T1 := Lib.hid t1
      have T2 := Lib.hid t2
      clear t1 t2
      go_wp2_with (refine wpList_store_mid rfl 26 (.tmp 6) (.tmp 32) rfl r 0 Z.toArray rfl (by rw [HZA.out]; rfl) T1.out HZI2.out HZO.out ?_)
      refine bodyPost_ret (res_ci Tryd.results11 _ _ ⟨r, 0, none⟩ (.agg Z.toArray) (.int .i64 a) rfl rfl (load_b T2.out Tryd.underlying26 rfl HZI.out)) rfl ⟨zr, a, by rw [HZ.out], .inr ⟨ha, rfl, .inr ⟨HC.out, i, b, HA.out, by rw [HY.out]; exact HC2.out⟩⟩, bel_setCells (BW.out.trans B3.out) HPR.out.2.2.1 0 Z⟩
  · have HE := Lib.hid herr
    clear hFe herr
    obtain ⟨t1, t2⟩ := store_rec (z := zr) K3.out
    rw [← HZ.out] at t1 t2
    have T1 := Lib.hid t1
    have T2 := Lib.hid t2
    clear t1 t2
    go_wp2_with (refine wpList_store_mid rfl 26 (.tmp 6) (.tmp 19) rfl r 0 Z.toArray rfl (by rw [HZA.out]; rfl) T1.out HZI2.out HZO.out ?_)
    refine bodyPost_ret (res_ci Tryd.results11 _ _ ⟨r, 0, none⟩ (.agg Z.toArray) (.int .i64 a) rfl rfl (load_b T2.out Tryd.underlying26 rfl HZI.out)) rfl ⟨zr, a, by rw [HZ.out], .inr ⟨ha, rfl, .inl HE.out⟩, bel_setCells BV.out HPR.out.2.2.1 0 Z⟩
end Pm
end Go.Proofs.YtkblbcdinibncaaDoor
end
