/-
  What U, N and Blob of a writer answer in this program.
  Conditions: the writer is one that NewWriter made, and has no error; a word; a number that is not negative; bytes that share no memory with the writer.
-/
import Derived.Test.YtkblbcdinibncaaDoorGWriter
namespace Go.Proofs.YtkblbcdinibncaaDoor
open Go.RowKit Go.Shelf
set_option linter.unusedVariables false
namespace Cd

theorem parts_one {w : World} {P : Nat} {A : Option Addr} {n c : Nat} {zs : List Int} {t : TypeId} (hb : Blk w P #[.slice A n c] t) (hs : Sl w A n c zs) : Parts w P [(A, n, c, zs)] := by
  intro i A' n' c' zs' h
  match i, h with
  | 0, h => simp at h; obtain ⟨rfl, rfl, rfl, rfl⟩ := h; exact ⟨hb.cell 0 rfl, hs⟩
theorem parts_two {w : World} {P : Nat} {A : Option Addr} {n c : Nat} {zs : List Int} {B : Option Addr} {m d : Nat} {ys : List Int} {t : TypeId} (hb : Blk w P #[.slice A n c, .slice B m d] t) (hs : Sl w A n c zs) (hs' : Sl w B m d ys) : Parts w P [(A, n, c, zs), (B, m, d, ys)] := by
  intro i A' n' c' zs' h
  match i, h with
  | 0, h => simp at h; obtain ⟨rfl, rfl, rfl, rfl⟩ := h; exact ⟨hb.cell 0 rfl, hs⟩
  | 1, h => simp at h; obtain ⟨rfl, rfl, rfl, rfl⟩ := h; exact ⟨hb.cell 1 rfl, hs'⟩
theorem own_block_ge {w : World} {base : Nat} {e : TypeId} {size : Nat} {A : Option Addr} {n c m : Nat} {xs : List Value} (h : w.ownsRow base e size (.slice A n c) m xs) : ∀ x, A = some x → base ≤ x.block := by
  rintro x rfl
  exact (h.lt _ rfl).1
end Cd
end Go.Proofs.YtkblbcdinibncaaDoor
