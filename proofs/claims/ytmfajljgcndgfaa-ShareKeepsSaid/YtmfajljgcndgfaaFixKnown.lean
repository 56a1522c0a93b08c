/-
  The law FixKnown returns true: the chapter's examples are answered as it says. No condition (the law has no argument).
-/
import Derived.Test.YtmfajljgcndgfaaFixSum
namespace Go.Proofs.Ytmfajljgcndgfaa
open Go.RowKit Go.Shelf
set_option linter.unusedVariables false

theorem Ints.new_ (w : World) (zs : List Int) (t : TypeId) : Ints .u64 (w.alloc (.cells (zs.map (.int .u64)).toArray t)) (some ⟨w.heap.size, 0, none⟩) zs.length zs := by
  refine ⟨rfl, fun _ => ⟨_, 0, rfl, by simp, fun i hi => ?_⟩⟩
  rw [Nat.zero_add, World.cell?_alloc_new, List.getElem?_toArray, List.getElem?_map, List.getElem?_eq_getElem hi, List.getD_eq_getElem?_getD, List.getElem?_eq_getElem hi]
  rfl

namespace Fix
/-! ### Each contract again, with what it comes to under names of its own -/
theorem add' (a b n r : Int) (w : World) (a0 : 0 ≤ a) (a1 : a ≤ 18446744073709551615) (b0 : 0 ≤ b) (b1 : b ≤ 18446744073709551615) (hn : amt (a + b) = n) (hr : amtE (a + b) = r) :
    Calls Try.prog 66 #[.int .u64 a, .int .u64 b] w fun e w' => e = .returned (.tuple #[.int .u64 n, .int .i64 r]) ∧ Bel w w' := by
  subst hn hr; exact add a b w a0 a1 b0 b1
theorem mulDiv' (a b c n r : Int) (w : World) (a0 : 0 ≤ a) (a1 : a ≤ 18446744073709551615) (b0 : 0 ≤ b) (b1 : b ≤ 18446744073709551615) (c0 : 0 ≤ c) (c1 : c ≤ 18446744073709551615) (hn : mdN a b c = n) (hr : mdE a b c = r) :
    Calls Try.prog 57 #[.int .u64 a, .int .u64 b, .int .u64 c] w fun e w' => e = .returned (.tuple #[.int .u64 n, .int .i64 r]) ∧ Bel w w' := by
  subst hn hr; exact mulDiv a b c w a0 a1 b0 b1 c0 c1
theorem part' (a p n r : Int) (w : World) (a0 : 0 ≤ a) (a1 : a ≤ 18446744073709551615) (p0 : 0 ≤ p) (p1 : p ≤ 18446744073709551615) (hn : partN a p = n) (hr : partE a p = r) :
    Calls Try.prog 54 #[.int .u64 a, .int .u64 p] w fun e w' => e = .returned (.tuple #[.int .u64 n, .int .i64 r]) ∧ Bel w w' := by
  subst hn hr; exact part a p w a0 a1 p0 p1
end Fix
end Go.Proofs.Ytmfajljgcndgfaa
