/-
  Texts of this claim, put together: Obj, Writer, Writer2, Reader, Reader2, Reader3, Reader4, Reader5, Reader6. What each one says, and under which conditions, stands ahead of it.
-/
import Derived.LaidEql
import Derived.Deep.RegionWith
import Derived.Deep.RegionHeld3
import Derived.Deep.DeepCutAuto
import Derived.Test.YtgdaojbflokmoaaBA

section
/-
  Objects behind pointers: a block of cells, how it is read and turned. No condition.
-/
namespace Go.Proofs.Ytgdaojbflokmoaa
open Go.RowKit Go.Shelf
set_option linter.unusedVariables false
namespace Cd

/-- A block of cells. -/
def Blk (w : World) (b : Nat) (cs : Array Value) (t : TypeId) : Prop := w.heap[b]? = some (.cells cs t (0, 0))
theorem Blk.lt {w : World} {b : Nat} {cs : Array Value} {t : TypeId} (h : Blk w b cs t) : b < w.heap.size := (Array.getElem?_eq_some_iff.1 h).1
theorem Blk.cell {w : World} {b : Nat} {cs : Array Value} {t : TypeId} (h : Blk w b cs t) (i : Nat) {v : Value} (hv : cs[i]? = some v) : w.cell? ⟨b, i, none⟩ = some v := by
  rw [cell_of_row w b i cs t (0, 0) h, hv]
theorem Blk.frozen {w : World} {b : Nat} {cs : Array Value} {t : TypeId} (h : Blk w b cs t) (i : Nat) : w.frozen? ⟨b, i, none⟩ = false := frozen_of_row w b i cs t h
theorem Blk.new (w : World) (cs : Array Value) (t : TypeId) : Blk (w.alloc (.cells cs t)) w.heap.size cs t := World.alloc_heap_new w _
theorem Blk.set {w : World} {b : Nat} {cs : Array Value} {t : TypeId} (h : Blk w b cs t) (i : Nat) (v : Value) : Blk (w.setCell ⟨b, i, none⟩ v) b (cs.setIfInBounds i v) t := heap_setCell_same w b i cs t v h
theorem Blk.other {w : World} {b : Nat} {cs : Array Value} {t : TypeId} (h : Blk w b cs t) {b' : Nat} (hne : b ≠ b') (i : Nat) (v : Value) : Blk (w.setCell ⟨b', i, none⟩ v) b cs t := (heap_setCell_other w ⟨b', i, none⟩ b v hne).trans h
theorem Blk.kep {S : Nat → Prop} {w w' : World} {b : Nat} {cs : Array Value} {t : TypeId} (h : Blk w b cs t) (hk : Kep S w w') (hs : ¬ S b) : Blk w' b cs t := (hk.block b h.lt hs).trans h
theorem Blk.bel {w w' : World} {b : Nat} {cs : Array Value} {t : TypeId} (h : Blk w b cs t) (hk : Bel w w') : Blk w' b cs t := (Below.block hk b h.lt).trans h
theorem Blk.alloc {w : World} {b : Nat} {cs : Array Value} {t : TypeId} (h : Blk w b cs t) (o : Obj) : Blk (w.alloc o) b cs t := h.bel ((Bel.refl w).alloc o)
/-- A row of bytes is no block of another type. -/
theorem Blk.not_row {w : World} {b : Nat} {cs : Array Value} {t e : TypeId} (h : Blk w b cs t) (hte : t ≠ e) {base size k : Nat} {v : Value} {xs : List Value} (hr : w.ownsRow base e size v k xs) : v.ownBlock ≠ some b := by
  rcases hr.2 with ⟨rfl, _⟩ | ⟨g, cap, cur, rfl, _, hgb, _⟩
  · simp [Value.ownBlock]
  · intro e'
    obtain rfl : g = b := by simpa [Value.ownBlock] using e'
    have := (show w.heap[g]? = _ from h).symm.trans hgb
    simp at this
    exact hte this.2
theorem owns_set {w : World} {base : Nat} {e : TypeId} {size : Nat} {v : Value} {n : Nat} {xs : List Value} (ho : w.ownsRow base e size v n xs) {b : Nat} (hne : v.ownBlock ≠ some b) (i : Nat) (u : Value) : (w.setCell ⟨b, i, none⟩ u).ownsRow base e size v n xs := by
  exact Kep.owns (S := fun k => k = b) (Kep.set (S := fun k => k = b) (Kep.refl _ w) (b := b) (o := i) rfl u) (fun k hk e => hne (by rw [hk, e])) ho

theorem eqIn_self {w : World} (d : Nat) (t e : TypeId) (a : Addr) (n : Nat) (ht : Try.prog.underlying t = some (.pointer e)) (he : ∀ w, (sizeOf e).run Try.prog w = .ok n w) (hn : n ≠ 0) : (Op.equalIn (d + 1) t (.pointer (some a)) (.pointer (some a))).run Try.prog w = .ok true w := by
  simp [Op.equalIn, run_underlying ht, he, run_sameAddr_same]
theorem neq_self {w : World} (t e : TypeId) (a : Addr) (n : Nat) (ht : Try.prog.underlying t = some (.pointer e)) (he : ∀ w, (sizeOf e).run Try.prog w = .ok n w) (hn : n ≠ 0) : (binOp .neq t (.pointer (some a)) (.pointer (some a))).run Try.prog w = .ok (.bool false) w := by
  simp only [binOp]
  simp [Op.equal, Op.maxDepth, eqIn_self 9999 t e a n ht he hn]

theorem Kep.set_self {b : Nat} {a w : World} (h : Kep (fun i => i = b) a w) (o : Nat) (u : Value) : Kep (fun i => i = b) a (w.setCell ⟨b, o, none⟩ u) := Kep.set (S := fun i => i = b) h (b := b) (o := o) rfl u

end Cd
end Go.Proofs.Ytgdaojbflokmoaa
end

section
/-
  What the methods of a writer answer in this program: what is written, or why not; nothing else is turned but the writer and its row.
  Conditions: the writer is one that NewWriter made; slices that read as bytes and share no memory with it.
-/
namespace Go.Proofs.Ytgdaojbflokmoaa
open Go.RowKit Go.Shelf
set_option linter.unusedVariables false
namespace Cd

theorem slice_of_own {w : World} {base : Nat} {e : TypeId} {size : Nat} {v : Value} {n : Nat} {xs : List Value} (h : w.ownsRow base e size v n xs) : ∃ A c, v = .slice A n c := by
  rcases h.2 with ⟨rfl, rfl⟩ | ⟨g, cap, cur, rfl, _⟩
  · exact ⟨_, _, rfl⟩
  · exact ⟨_, _, rfl⟩

/-- Slices that stand in a row of slices. -/
def Parts (w : World) (P : Nat) (ps : List (Option Addr × Nat × Nat × List Int)) : Prop :=
  ∀ i A n c zs, ps[i]? = some (A, n, c, zs) → w.cell? ⟨P, i, none⟩ = some (.slice A n c) ∧ Sl w A n c zs
/-- All of the first k. -/
def flat (ps : List (Option Addr × Nat × Nat × List Int)) (k : Nat) : List Int := ((ps.take k).map (·.2.2.2)).flatten
theorem flat_succ {ps : List (Option Addr × Nat × Nat × List Int)} {k : Nat} {A : Option Addr} {n c : Nat} {zs : List Int} (h : ps[k]? = some (A, n, c, zs)) : flat ps (k + 1) = flat ps k ++ zs := by
  unfold flat
  rw [List.take_add_one, h]
  simp
theorem flat_le (ps : List (Option Addr × Nat × Nat × List Int)) {k m : Nat} (h : k ≤ m) : (flat ps k).length ≤ (flat ps m).length := by
  induction m with
  | zero => obtain rfl : k = 0 := by omega
            exact Nat.le_refl _
  | succ m ih =>
    rcases Nat.lt_or_ge m k with h' | h'
    · obtain rfl : k = m + 1 := by omega
      exact Nat.le_refl _
    · refine Nat.le_trans (ih h') ?_
      cases hp : ps[m]? with
      | none =>
        have : ps.length ≤ m := List.getElem?_eq_none_iff.1 hp
        unfold flat
        rw [List.take_of_length_le this, List.take_of_length_le (by omega)]
        exact Nat.le_refl _
      | some p =>
        obtain ⟨A, n, c, zs⟩ := p
        rw [flat_succ hp]
        simp

/-- What a writer may turn. -/
def Own2 (b : Nat) (v : Value) : Nat → Prop := fun k => k = b ∨ v.ownBlock = some k

end Cd
end Go.Proofs.Ytgdaojbflokmoaa
end

section
/-
  What U, N and Blob of a writer answer in this program.
  Conditions: the writer is one that NewWriter made, and has no error; a word; a number that is not negative; bytes that share no memory with the writer.
-/
namespace Go.Proofs.Ytgdaojbflokmoaa
open Go.RowKit Go.Shelf
set_option linter.unusedVariables false
namespace Cd

theorem parts_one {w : World} {P : Nat} {A : Option Addr} {n c : Nat} {zs : List Int} {t : TypeId} (hb : Blk w P #[.slice A n c] t) (hs : Sl w A n c zs) : Parts w P [(A, n, c, zs)] := by
  intro i A' n' c' zs' h
  match i, h with
  | 0, h => simp at h; obtain ⟨rfl, rfl, rfl, rfl⟩ := h; exact ⟨hb.cell 0 rfl, hs⟩
theorem parts_two {w : World} {P : Nat} {A : Option Addr} {n c : Nat} {zs : List Int} {B : Option Addr} {m d : Nat} {ys : List Int} {t : TypeId} (hb : Blk w P #[.slice A n c, .slice B m d] t) (hs : Sl w A n c zs) (hs' : Sl w B m d ys) : Parts w P [(A, n, c, zs), (B, m, d, ys)] := by
  intro i A' n' c' zs' h
  match i, h with
  | 0, h => simp at h; obtain ⟨rfl, rfl, rfl, rfl⟩ := h; exact ⟨hb.cell 0 rfl, hs⟩
  | 1, h => simp at h; obtain ⟨rfl, rfl, rfl, rfl⟩ := h; exact ⟨hb.cell 1 rfl, hs'⟩
theorem own_block_ge {w : World} {base : Nat} {e : TypeId} {size : Nat} {A : Option Addr} {n c m : Nat} {xs : List Value} (h : w.ownsRow base e size (.slice A n c) m xs) : ∀ x, A = some x → base ≤ x.block := by
  rintro x rfl
  exact (h.lt _ rfl).1
end Cd
end Go.Proofs.Ytgdaojbflokmoaa
end

section
/-
  What a reader answers in this program: its state, its place, what is left, its end; what U reads.
  Conditions: the reader is one that NewReader made of at most 10^6 bytes.
-/
namespace Go.Proofs.Ytgdaojbflokmoaa
open Go.RowKit Go.Shelf
set_option linter.unusedVariables false
namespace Cd

/-- What the end of a reader tells. -/
def endOf (n k : Nat) (f : Option (Int × Int)) : Int × Int :=
  match f with
  | some p => p
  | none => if k < n then (4, (k : Int)) else (0, 0)
def atOf (k : Nat) (f : Option (Int × Int)) : Int :=
  match f with
  | some p => p.2
  | none => k
def leftOf (n k : Nat) (f : Option (Int × Int)) : Int :=
  match f with
  | some _ => 0
  | none => (n : Int) - k
abbrev fault (p : Int × Int) : Value := .agg #[.int .i64 p.1, .int .i64 p.2]

end Cd
end Go.Proofs.Ytgdaojbflokmoaa
end

section
/-
  What U of a reader answers in this program.
  Conditions: the reader is one that NewReader made of at most 10^6 bytes.
-/
namespace Go.Proofs.Ytgdaojbflokmoaa
open Go.RowKit Go.Shelf
set_option linter.unusedVariables false
namespace Cd

/-- How a reader moves on behind an item: where the item ends, or its fault. -/
def Moves (k : Nat) (tl e bad : Int) (k' : Nat) (f' : Option (Int × Int)) : Prop := (e = 0 ∧ (k' : Int) = tl ∧ f' = none) ∨ (e ≠ 0 ∧ k' = k ∧ f' = some (e, bad))

theorem laid (w : World) (t : TypeId) : ∀ w1, Bel (w.alloc (.cells #[.int .i64 0, .int .i64 0] t)).drew w1 → w1.cell? ⟨w.heap.size, 0, none⟩ = some (.int .i64 0) ∧ w1.cell? ⟨w.heap.size, 1, none⟩ = some (.int .i64 0) ∧ w1.frozen? ⟨w.heap.size, 0, none⟩ = false ∧ w1.frozen? ⟨w.heap.size, 1, none⟩ = false ∧ Hid (Blk w1 w.heap.size #[.int .i64 0, .int .i64 0] t) := by
  intro w1 hb
  have h := (Blk.new w #[.int .i64 0, .int .i64 0] t).bel (((Bel.refl _).drew).trans hb)
  exact ⟨h.cell 0 rfl, h.cell 1 rfl, h.frozen 0, h.frozen 1, h⟩

end Cd
end Go.Proofs.Ytgdaojbflokmoaa
end

section
/-
  What N of a reader answers in this program.
  Conditions: the reader is one that NewReader made of at most 10^6 bytes.
-/
namespace Go.Proofs.Ytgdaojbflokmoaa
open Go.RowKit Go.Shelf
set_option linter.unusedVariables false
namespace Cd

/-- What N tells: the number, the place behind it, or a fault. -/
def NWay (zs : List Int) (k : Nat) (least most x tl e bad : Int) : Prop :=
  ∃ x0 t0 e0 b0, Way zs k x0 t0 e0 b0 ∧ 0 ≤ x0 ∧ x0 ≤ 18446744073709551615 ∧ ((e0 ≠ 0 ∧ x = 0 ∧ tl = 0 ∧ e = e0 ∧ bad = b0) ∨ (e0 = 0 ∧ (x0 < least ∨ most < x0) ∧ x = 0 ∧ tl = 0 ∧ e = 3 ∧ bad = k) ∨ (e0 = 0 ∧ least ≤ x0 ∧ x0 ≤ most ∧ x = x0 ∧ tl = t0 ∧ e = 0 ∧ bad = 0))
abbrev gotI (x tl e bad : Int) : Value := .tuple #[.int .i64 x, .int .i64 tl, .agg #[.int .i64 e, .int .i64 bad]]

end Cd
end Go.Proofs.Ytgdaojbflokmoaa
end

section
/-
  What Blob of a reader answers in this program, and its items in general.
  Conditions: the reader is one that NewReader made of at most 10^6 bytes.
-/
namespace Go.Proofs.Ytgdaojbflokmoaa
open Go.RowKit Go.Shelf
set_option linter.unusedVariables false
namespace Cd

/-- What Blob tells: the bytes, the place behind them, or a fault. -/
def BWay (zs : List Int) (k : Nat) (most : Int) (ys : List Int) (tl e bad : Int) : Prop :=
  ∃ x0 t0 e0 b0, Way zs k x0 t0 e0 b0 ∧ 0 ≤ x0 ∧ x0 ≤ 18446744073709551615 ∧ ((e0 ≠ 0 ∧ ys = [] ∧ tl = 0 ∧ e = e0 ∧ bad = b0) ∨ (e0 = 0 ∧ (most < 0 ∨ most < x0) ∧ ys = [] ∧ tl = 0 ∧ e = 4 ∧ bad = k) ∨
    (∃ t : Nat, t0 = t ∧ t ≤ zs.length ∧ e0 = 0 ∧ 0 ≤ most ∧ x0 ≤ most ∧ (zs.length : Int) - t < x0 ∧ ys = [] ∧ tl = 0 ∧ e = 6 ∧ bad = k) ∨
    (∃ t m : Nat, t0 = t ∧ x0 = m ∧ t + m ≤ zs.length ∧ e0 = 0 ∧ 0 ≤ most ∧ x0 ≤ most ∧ ys = (zs.drop t).take m ∧ tl = ((t + m : Nat) : Int) ∧ e = 0 ∧ bad = 0))
abbrev gotV (v : Value) (tl e bad : Int) : Value := .tuple #[v, .int .i64 tl, .agg #[.int .i64 e, .int .i64 bad]]

end Cd
end Go.Proofs.Ytgdaojbflokmoaa
end

section
/-
  What item of a reader answers in this program where the item is bytes, and what U, N and Blob answer.
  Conditions: the reader is one that NewReader made of at most 10^6 bytes.
-/
namespace Go.Proofs.Ytgdaojbflokmoaa
open Go.RowKit Go.Shelf
set_option linter.unusedVariables false
namespace Cd

theorem own_ne {w : World} {base : Nat} {e : TypeId} {size : Nat} {v : Value} {n : Nat} {xs : List Value} (h : w.ownsRow base e size v n xs) {b : Nat} (hb : b < base) : v.ownBlock ≠ some b := fun e => by
  have := (h.lt _ e).1
  omega
theorem own_set2 {w w1 : World} {v : Value} {n : Nat} {xs : List Value} {o : Obj} (h : w1.ownsRow (w.alloc o).drew.heap.size 5 1 v n xs) {u1 u2 : Value} : Hid (((w1.setCell ⟨w.heap.size, 0, none⟩ u1).setCell ⟨w.heap.size, 1, none⟩ u2).ownsRow w.heap.size 5 1 v n xs) := by
  have hne : v.ownBlock ≠ some w.heap.size := fun e => by have := (h.lt _ e).1; simp at this; omega
  exact owns_set (owns_set (owns_mono h (by simp)) hne 0 _) hne 1 _



def RU (zs : List Int) (k : Nat) (f : Option (Int × Int)) (x : Int) (k' : Nat) (f' : Option (Int × Int)) : Prop :=
  (∃ p, f = some p ∧ x = 0 ∧ k' = k ∧ f' = f) ∨ (f = none ∧ ∃ tl e bad, Way zs k x tl e bad ∧ Moves k tl e bad k' f' ∧ k' ≤ zs.length ∧ (e ≠ 0 → x = 0))
def RN (zs : List Int) (k : Nat) (f : Option (Int × Int)) (least most x : Int) (k' : Nat) (f' : Option (Int × Int)) : Prop :=
  (∃ p, f = some p ∧ x = 0 ∧ k' = k ∧ f' = f) ∨ (f = none ∧ ∃ tl e bad, NWay zs k least most x tl e bad ∧ Moves k tl e bad k' f' ∧ k' ≤ zs.length ∧ (e ≠ 0 → x = 0))
def RB (zs : List Int) (k : Nat) (f : Option (Int × Int)) (most : Int) (ys : List Int) (k' : Nat) (f' : Option (Int × Int)) : Prop :=
  (∃ p, f = some p ∧ ys = [] ∧ k' = k ∧ f' = f) ∨ (f = none ∧ ∃ tl e bad, BWay zs k most ys tl e bad ∧ Moves k tl e bad k' f' ∧ k' ≤ zs.length ∧ (e ≠ 0 → ys = []))

end Cd
end Go.Proofs.Ytgdaojbflokmoaa
end

section
/-
  What N and Blob of a reader answer in this program, and Fail.
  Conditions: the reader is one that NewReader made of at most 10^6 bytes.
-/
namespace Go.Proofs.Ytgdaojbflokmoaa
open Go.RowKit Go.Shelf
set_option linter.unusedVariables false
namespace Cd

theorem bel_cell {w w' : World} (h : Bel w w') {b o : Nat} {v : Value} (hc : w.cell? ⟨b, o, none⟩ = some v) : w'.cell? ⟨b, o, none⟩ = some v := (Kep.of_bel (S := fun _ => False) h).cell id hc

/-- What Fail makes of a fault. -/
def failOf (f : Option (Int × Int)) (e p : Int) : Option (Int × Int) := if e = 0 then f else match f with
  | some q => some q
  | none => some (e, p)

end Cd
end Go.Proofs.Ytgdaojbflokmoaa
end
