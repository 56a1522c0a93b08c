/-
  The walk of the law CodecOne: it returns true, and what was there is as it was.
  Conditions: a slice that reads as bytes, a slice that reads as integers.
-/
import Derived.Test.YtagcpphkabkgjaaOneItems
import Derived.Test.YtagcpphkabkgjaaOneKit
import Derived.Test.YtagcpphkabkgjaaCodecKnown
namespace Go.Proofs.Ytagcpphkabkgjaa
open Go.RowKit Go.Shelf
set_option linter.unusedVariables false
namespace Cd

theorem wkeep {w w' : World} {b d : Nat} {L err : Int} {v : Value} {out : List Int} (h : WS w b L v err out b) (hk : Kep (fun i => i = d) w w') (hdb : d < b) : WS w' b L v err out b :=
  h.kep hk (Nat.ne_of_gt hdb) (fun q hq e => by have := (h.row.lt q hq).1; omega)
theorem rkeep {w w' : World} {b d : Nat} {L err : Int} {v : Value} {out : List Int} {A : Option Addr} {n c : Nat} {zs : List Int} {k : Nat} {F : Option Addr} (h : RSt w d A n c zs k F) (hw : WS w b L v err out b) (hk : Kep (Own2 b v) w w') (hdb : d < b) (hA : 0 < n → ∀ x : Addr, A = some x → x.block < b) : RSt w' d A n c zs k F :=
  h.kep0 hk (fun hS => by
    rcases hS with e | e
    · omega
    · have := (hw.row.lt _ e).1; omega) (fun hn x hx hS => by
    have := hA hn x hx
    rcases hS with e | e
    · omega
    · have := (hw.row.lt _ e).1; omega)
theorem fresh_take {w w' : World} {u : Value} {zs : List Int} {k : Nat} (h : Fresh w w' u (zs.take k)) (hk : k ≤ zs.length) : ∃ A c, u = .slice A k c ∧ Sl w' A k c (zs.take k) := by
  obtain ⟨A, c, h1, h2⟩ := h.sl
  have e : (zs.take k).length = k := by rw [List.length_take]; omega
  rw [e] at h1 h2
  exact ⟨A, c, h1, h2⟩
theorem rs_of {w : World} {d : Nat} {A : Option Addr} {n c : Nat} {zs : List Int} {k : Nat} (h : RSt w d A n c zs k none) : RS w d zs k none := ⟨A, n, c, none, h, .inl ⟨rfl, rfl⟩⟩
theorem own_lt {w : World} {A : Option Addr} {n c : Nat} {zs : List Int} (h : Sl w A n c zs) : 0 < n → ∀ x : Addr, A = some x → x.block < w.heap.size := fun hn x hx => by
  obtain ⟨b', o', h1, h2, _⟩ := h.ints.2 hn
  rw [h1] at hx
  cases hx
  exact h2

end Cd
end Go.Proofs.Ytagcpphkabkgjaa
