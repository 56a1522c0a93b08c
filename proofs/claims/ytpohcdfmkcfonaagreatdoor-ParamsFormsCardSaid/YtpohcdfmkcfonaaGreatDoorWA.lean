/-
  Texts of this claim, put together: Obj, Writer, Writer2. What each one says, and under which conditions, stands ahead of it.
-/
import Derived.LaidEql
import Derived.Test.YtpohcdfmkcfonaaGreatDoorGKit

section
/-
  Objects behind pointers: a block of cells, how it is read and turned. No condition.
-/
namespace Go.Proofs.YtpohcdfmkcfonaaGreatDoor
open Go.RowKit Go.Shelf
set_option linter.unusedVariables false
namespace Cd

/-- A block of cells. -/
def Blk (w : World) (b : Nat) (cs : Array Value) (t : TypeId) : Prop := w.heap[b]? = some (.cells cs t (0, 0))
theorem Blk.lt {w : World} {b : Nat} {cs : Array Value} {t : TypeId} (h : Blk w b cs t) : b < w.heap.size := (Array.getElem?_eq_some_iff.1 h).1
theorem Blk.cell {w : World} {b : Nat} {cs : Array Value} {t : TypeId} (h : Blk w b cs t) (i : Nat) {v : Value} (hv : cs[i]? = some v) : w.cell? ⟨b, i, none⟩ = some v := by
  rw [cell_of_row w b i cs t (0, 0) h, hv]
theorem Blk.frozen {w : World} {b : Nat} {cs : Array Value} {t : TypeId} (h : Blk w b cs t) (i : Nat) : w.frozen? ⟨b, i, none⟩ = false := frozen_of_row w b i cs t h
theorem Blk.new (w : World) (cs : Array Value) (t : TypeId) : Blk (w.alloc (.cells cs t)) w.heap.size cs t := World.alloc_heap_new w _
theorem Blk.set {w : World} {b : Nat} {cs : Array Value} {t : TypeId} (h : Blk w b cs t) (i : Nat) (v : Value) : Blk (w.setCell ⟨b, i, none⟩ v) b (cs.setIfInBounds i v) t := heap_setCell_same w b i cs t v h
theorem Blk.other {w : World} {b : Nat} {cs : Array Value} {t : TypeId} (h : Blk w b cs t) {b' : Nat} (hne : b ≠ b') (i : Nat) (v : Value) : Blk (w.setCell ⟨b', i, none⟩ v) b cs t := (heap_setCell_other w ⟨b', i, none⟩ b v hne).trans h
theorem Blk.kep {S : Nat → Prop} {w w' : World} {b : Nat} {cs : Array Value} {t : TypeId} (h : Blk w b cs t) (hk : Kep S w w') (hs : ¬ S b) : Blk w' b cs t := (hk.block b h.lt hs).trans h
theorem Blk.bel {w w' : World} {b : Nat} {cs : Array Value} {t : TypeId} (h : Blk w b cs t) (hk : Bel w w') : Blk w' b cs t := (Below.block hk b h.lt).trans h
theorem Blk.alloc {w : World} {b : Nat} {cs : Array Value} {t : TypeId} (h : Blk w b cs t) (o : Obj) : Blk (w.alloc o) b cs t := h.bel ((Bel.refl w).alloc o)
/-- A row of bytes is no block of another type. -/
theorem Blk.not_row {w : World} {b : Nat} {cs : Array Value} {t e : TypeId} (h : Blk w b cs t) (hte : t ≠ e) {base size k : Nat} {v : Value} {xs : List Value} (hr : w.ownsRow base e size v k xs) : v.ownBlock ≠ some b := by
  rcases hr.2 with ⟨rfl, _⟩ | ⟨g, cap, cur, rfl, _, hgb, _⟩
  · simp [Value.ownBlock]
  · intro e'
    obtain rfl : g = b := by simpa [Value.ownBlock] using e'
    have := (show w.heap[g]? = _ from h).symm.trans hgb
    simp at this
    exact hte this.2
theorem owns_set {w : World} {base : Nat} {e : TypeId} {size : Nat} {v : Value} {n : Nat} {xs : List Value} (ho : w.ownsRow base e size v n xs) {b : Nat} (hne : v.ownBlock ≠ some b) (i : Nat) (u : Value) : (w.setCell ⟨b, i, none⟩ u).ownsRow base e size v n xs := by
  exact Kep.owns (S := fun k => k = b) (Kep.set (S := fun k => k = b) (Kep.refl _ w) (b := b) (o := i) rfl u) (fun k hk e => hne (by rw [hk, e])) ho

theorem eqIn_self {w : World} (d : Nat) (t e : TypeId) (a : Addr) (n : Nat) (ht : Tryz.prog.underlying t = some (.pointer e)) (he : ∀ w, (sizeOf e).run Tryz.prog w = .ok n w) (hn : n ≠ 0) : (Op.equalIn (d + 1) t (.pointer (some a)) (.pointer (some a))).run Tryz.prog w = .ok true w := by
  simp [Op.equalIn, run_underlying ht, he, run_sameAddr_same]
theorem neq_self {w : World} (t e : TypeId) (a : Addr) (n : Nat) (ht : Tryz.prog.underlying t = some (.pointer e)) (he : ∀ w, (sizeOf e).run Tryz.prog w = .ok n w) (hn : n ≠ 0) : (binOp .neq t (.pointer (some a)) (.pointer (some a))).run Tryz.prog w = .ok (.bool false) w := by
  simp only [binOp]
  simp [Op.equal, Op.maxDepth, eqIn_self 9999 t e a n ht he hn]

theorem Kep.set_self {b : Nat} {a w : World} (h : Kep (fun i => i = b) a w) (o : Nat) (u : Value) : Kep (fun i => i = b) a (w.setCell ⟨b, o, none⟩ u) := Kep.set (S := fun i => i = b) h (b := b) (o := o) rfl u

end Cd
end Go.Proofs.YtpohcdfmkcfonaaGreatDoor
end

section
/-
  What the methods of a writer answer in this program: what is written, or why not; nothing else is turned but the writer and its row.
  Conditions: the writer is one that NewWriter made; slices that read as bytes and share no memory with it.
-/
namespace Go.Proofs.YtpohcdfmkcfonaaGreatDoor
open Go.RowKit Go.Shelf
set_option linter.unusedVariables false
namespace Cd

theorem wpList_append_at {w : World} {ops : Array Oper} {rest : List Oper} {o : Oper} {a : Act} {Q : Exit → Act → World → Prop} (hgd : o.guard = none) (s x : Operand)
    (ho : o.op = .call { callee := .builtin .append, args := #[s, x], argTypes := #[25, 25] })
    (base : Nat) (v : Value) (k : Nat) (xs : List Value) (hs : a.eval s = v) (hown : w.ownsRow base 5 1 v k xs) (A : Option Addr) (m c : Nat) (zs : List Int) (hx : a.eval x = .slice A m c) (hi : Sl w A m c zs)
    (hm : k + m ≤ 1000000000000) (hb : base ≤ w.heap.size)
    (h : ∀ v' w', w'.ownsRow base 5 1 v' (k + m) (xs ++ zs.map (Value.int .u8)) → w.grownBy w' v.ownBlock → (v'.ownBlock = v.ownBlock ∨ v'.ownBlock = some w.heap.size) → wpList Tryz.prog ops Q rest (a.put o.dst v') w') : wpList Tryz.prog ops Q (o :: rest) a w := by
  obtain ⟨i0, h1, hz0, hz1, hz2⟩ := info_parts Tryz.info_u8
  cases A with
  | none =>
    obtain rfl : c = 0 := hi.nil rfl
    obtain rfl : m = 0 := by have := hi.cap; omega
    have hz : zs = [] := List.length_eq_zero_iff.1 hi.ints.1
    subst hz
    refine wpList_append_own_none hgd s x 25 ho base 5 i0 1 Tryz.underlying25 h1 v k xs hs hown hx ?_
    exact h v w (by simpa using hown) ⟨rfl, rfl, rfl, Nat.le_refl _, fun _ _ _ => rfl⟩ (.inl rfl)
  | some ad =>
    refine wpList_append_own_at w hgd s x 25 ho base 5 i0 (.int .u8 0) 1 1 Tryz.underlying25 h1 hz0 hz1 hz2 rfl (by decide) v k xs hs hown ad m c (zs.map (Value.int .u8)) hx (by have := hi.ints.1; simp; omega) (Ints.news hi.ints) (ints_ok zs) (by unfold maxLen; omega) (by omega) hb ?_
    intro v' w' h2 h3 _ h4
    exact h v' w' h2 h3 h4

theorem slice_of_own {w : World} {base : Nat} {e : TypeId} {size : Nat} {v : Value} {n : Nat} {xs : List Value} (h : w.ownsRow base e size v n xs) : ∃ A c, v = .slice A n c := by
  rcases h.2 with ⟨rfl, rfl⟩ | ⟨g, cap, cur, rfl, _⟩
  · exact ⟨_, _, rfl⟩
  · exact ⟨_, _, rfl⟩

/-- Slices that stand in a row of slices. -/
def Parts (w : World) (P : Nat) (ps : List (Option Addr × Nat × Nat × List Int)) : Prop :=
  ∀ i A n c zs, ps[i]? = some (A, n, c, zs) → w.cell? ⟨P, i, none⟩ = some (.slice A n c) ∧ Sl w A n c zs
/-- All of the first k. -/
def flat (ps : List (Option Addr × Nat × Nat × List Int)) (k : Nat) : List Int := ((ps.take k).map (·.2.2.2)).flatten
theorem flat_succ {ps : List (Option Addr × Nat × Nat × List Int)} {k : Nat} {A : Option Addr} {n c : Nat} {zs : List Int} (h : ps[k]? = some (A, n, c, zs)) : flat ps (k + 1) = flat ps k ++ zs := by
  unfold flat
  rw [List.take_add_one, h]
  simp
theorem flat_le (ps : List (Option Addr × Nat × Nat × List Int)) {k m : Nat} (h : k ≤ m) : (flat ps k).length ≤ (flat ps m).length := by
  induction m with
  | zero => obtain rfl : k = 0 := by omega
            exact Nat.le_refl _
  | succ m ih =>
    rcases Nat.lt_or_ge m k with h' | h'
    · obtain rfl : k = m + 1 := by omega
      exact Nat.le_refl _
    · refine Nat.le_trans (ih h') ?_
      cases hp : ps[m]? with
      | none =>
        have : ps.length ≤ m := List.getElem?_eq_none_iff.1 hp
        unfold flat
        rw [List.take_of_length_le this, List.take_of_length_le (by omega)]
        exact Nat.le_refl _
      | some p =>
        obtain ⟨A, n, c, zs⟩ := p
        rw [flat_succ hp]
        simp

/-- What a writer may turn. -/
def Own2 (b : Nat) (v : Value) : Nat → Prop := fun k => k = b ∨ v.ownBlock = some k

end Cd
end Go.Proofs.YtpohcdfmkcfonaaGreatDoor
end

section
/-
  What U, N and Blob of a writer answer in this program.
  Conditions: the writer is one that NewWriter made, and has no error; a word; a number that is not negative; bytes that share no memory with the writer.
-/
namespace Go.Proofs.YtpohcdfmkcfonaaGreatDoor
open Go.RowKit Go.Shelf
set_option linter.unusedVariables false
namespace Cd

theorem parts_one {w : World} {P : Nat} {A : Option Addr} {n c : Nat} {zs : List Int} {t : TypeId} (hb : Blk w P #[.slice A n c] t) (hs : Sl w A n c zs) : Parts w P [(A, n, c, zs)] := by
  intro i A' n' c' zs' h
  match i, h with
  | 0, h => simp at h; obtain ⟨rfl, rfl, rfl, rfl⟩ := h; exact ⟨hb.cell 0 rfl, hs⟩
theorem parts_two {w : World} {P : Nat} {A : Option Addr} {n c : Nat} {zs : List Int} {B : Option Addr} {m d : Nat} {ys : List Int} {t : TypeId} (hb : Blk w P #[.slice A n c, .slice B m d] t) (hs : Sl w A n c zs) (hs' : Sl w B m d ys) : Parts w P [(A, n, c, zs), (B, m, d, ys)] := by
  intro i A' n' c' zs' h
  match i, h with
  | 0, h => simp at h; obtain ⟨rfl, rfl, rfl, rfl⟩ := h; exact ⟨hb.cell 0 rfl, hs⟩
  | 1, h => simp at h; obtain ⟨rfl, rfl, rfl, rfl⟩ := h; exact ⟨hb.cell 1 rfl, hs'⟩
theorem own_block_ge {w : World} {base : Nat} {e : TypeId} {size : Nat} {A : Option Addr} {n c m : Nat} {xs : List Value} (h : w.ownsRow base e size (.slice A n c) m xs) : ∀ x, A = some x → base ≤ x.block := by
  rintro x rfl
  exact (h.lt _ rfl).1
end Cd
end Go.Proofs.YtpohcdfmkcfonaaGreatDoor
end
