/-
  What the law HopLists answers, as it is lifted. Condition: the numbers are ints.
-/
import Derived.Test.YtahhnfnonekbmaaHp11
import Derived.Test.YtahhnfnonekbmaaHpIn
namespace Go.Proofs.Ytahhnfnonekbmaa
open Go.RowKit Go.Shelf
set_option linter.unusedVariables false
namespace Hp
open Kk Pm

theorem lists (A : Option Addr) (n c : Nat) (x1 x2 x3 x4 m h u : Int) (w : World) (hn : n ≤ 9223372036854775807) (hi : Hops w A n c) (a0 : -9223372036854775808 ≤ x1) (a1 : x1 ≤ 9223372036854775807) (b0 : -9223372036854775808 ≤ x2) (b1 : x2 ≤ 9223372036854775807)
    (c0 : -9223372036854775808 ≤ x3) (c1 : x3 ≤ 9223372036854775807) (d0 : -9223372036854775808 ≤ x4) (d1 : x4 ≤ 9223372036854775807) (m0 : -9223372036854775808 ≤ m) (m1 : m ≤ 9223372036854775807) (h0 : -9223372036854775808 ≤ h) (h1 : h ≤ 9223372036854775807) (u0 : -9223372036854775808 ≤ u) (u1 : u ≤ 9223372036854775807) :
    Calls Try.prog 3 #[.slice A n c, .agg #[.int .i64 x1, .int .i64 x2, .int .i64 x3, .int .i64 x4], .int .i64 m, .int .i64 h, .int .i64 u] w fun e w' => e = .returned (.bool true) ∧ Bel w w' := by
  obtain ⟨l, hl, hw⟩ := hops_rs hi
  exact listsLaw A n c l x1 x2 x3 x4 m h u w hl (fun r hr => (hw r hr).w3) ⟨a0, a1⟩ ⟨b0, b1⟩ ⟨c0, c1⟩
end Hp
end Go.Proofs.Ytahhnfnonekbmaa
