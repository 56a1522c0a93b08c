/-
  A slice of slices of bytes as a walk reads it; what long answers. Conditions: no slice is longer than the greatest length.
-/
import Derived.Test.YtgalhpejihmhkaaDoorGC
namespace Go.Proofs.YtgalhpejihmhkaaDoor
open Go.RowKit Go.Shelf
set_option linter.unusedVariables false
namespace Kk

/-- One of the slices. -/
structure One (w : World) (P : Option Addr) (m k : Nat) (zs : List Int) : Prop where
  sl : Sl w P m k zs
  by_ : By zs
  max : m ≤ 140737488355328
  cmax : k ≤ maxLen
theorem One.bel {w w' : World} {P : Option Addr} {m k : Nat} {zs : List Int} (h : One w P m k zs) (hb : Bel w w') : One w' P m k zs := ⟨h.sl.bel hb, h.by_, h.max, h.cmax⟩
/-- A slice that reads as slices of numbers. -/
def Lst (w : World) (A : Option Addr) (n : Nat) (zss : List (List Int)) : Prop :=
  zss.length = n ∧ (0 < n → ∃ b o, A = some ⟨b, o, none⟩ ∧ b < w.heap.size ∧ ∀ i, i < n → ∃ P m k, w.cell? ⟨b, o + i, none⟩ = some (.slice P m k) ∧ One w P m k (zss.getD i []))
theorem Lst.bel {w w' : World} {A : Option Addr} {n : Nat} {zss : List (List Int)} (h : Lst w A n zss) (hb : Bel w w') : Lst w' A n zss :=
  ⟨h.1, fun hn => by
    obtain ⟨b, o, e, hlt, hc⟩ := h.2 hn
    refine ⟨b, o, e, Nat.lt_of_lt_of_le hlt (Below.size hb), fun i hi => ?_⟩
    obtain ⟨P, m, k, h1, h2⟩ := hc i hi
    exact ⟨P, m, k, (Below.cell (p := ⟨b, o + i, none⟩) hb hlt).trans h1, h2.bel hb⟩⟩
/-- How many bytes the first k have. -/
def tot (zss : List (List Int)) : Nat → Nat
  | 0 => 0
  | k + 1 => tot zss k + (zss.getD k []).length
theorem tot_mono (zss : List (List Int)) {j k : Nat} (h : j ≤ k) : tot zss j ≤ tot zss k := by
  induction h with
  | refl => exact Nat.le_refl _
  | step _ ih => exact Nat.le_trans ih (Nat.le_add_right _ _)
/-- What stands together of the first k. -/
def flat (zss : List (List Int)) : Nat → List Int
  | 0 => []
  | k + 1 => flat zss k ++ zss.getD k []
theorem flat_len (zss : List (List Int)) : ∀ k, (flat zss k).length = tot zss k
  | 0 => rfl
  | k + 1 => by show (flat zss k ++ _).length = _; rw [List.length_append, flat_len zss k]; rfl
theorem flat_pre (zss : List (List Int)) {j k : Nat} (h : j ≤ k) : flat zss j <+: flat zss k := by
  induction h with
  | refl => exact List.prefix_refl _
  | step _ ih => exact ih.trans (List.prefix_append _ _)
/-- Are they long? -/
def lng (n : Nat) (zss : List (List Int)) : Bool := decide (700 < tot zss n ∨ 40 < n)

theorem own_ptr {w : World} {base : Nat} {e : TypeId} {v : Value} {n : Nat} {zs : List Int} (h : w.ownsRow base e 1 v n (zs.map (Value.int .u8))) :
    ∃ A c, v = .slice A n c ∧ Ints .u8 w A n zs ∧ n ≤ c ∧ c ≤ maxLen ∧ ∀ x, A = some x → base ≤ x.block := by
  obtain ⟨A, c, rfl, h1, h2, h3⟩ := ints_of_own h
  refine ⟨A, c, rfl, h1, h2, h3, fun x hx => ?_⟩
  subst hx
  rcases h.2 with ⟨h4, _⟩ | ⟨g, cap, cur, h4, hb, _⟩
  · cases h4
  · injection h4 with h4
    injection h4 with h4
    subst h4
    exact hb
end Kk
end Go.Proofs.YtgalhpejihmhkaaDoor
