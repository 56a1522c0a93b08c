/-
  What Hash of a reader answers in this program; distraintkit.Pick; whether a reader has a fault.
  Conditions: the reader is one that NewReader made of at most 10^6 bytes.
-/
import Derived.Test.YtpfdakkameifkaaGHash3
namespace Go.Proofs.Ytpfdakkameifkaa
open Go.RowKit Go.Shelf
set_option linter.unusedVariables false
namespace Cd

def RH (zs : List Int) (k : Nat) (f : Option (Int × Int)) (hs : List Int) (k' : Nat) (f' : Option (Int × Int)) : Prop :=
  (∃ p, f = some p ∧ hs = List.replicate 32 0 ∧ k' = k ∧ f' = f) ∨ (f = none ∧ ((k + 32 ≤ zs.length ∧ hs = (zs.drop k).take 32 ∧ k' = k + 32 ∧ f' = none) ∨ (zs.length < k + 32 ∧ hs = List.replicate 32 0 ∧ k' = k ∧ f' = some (6, (k : Int)))))

theorem RSt.kep0 {S : Nat → Prop} {w w' : World} {b : Nat} {A : Option Addr} {n c : Nat} {zs : List Int} {k : Nat} {F : Option Addr} (h : RSt w b A n c zs k F) (hk : Kep S w w') (h1 : ¬ S b) (h2 : 0 < n → ∀ x : Addr, A = some x → ¬ S x.block) : RSt w' b A n c zs k F := by
  rcases Nat.eq_zero_or_pos n with h0 | h0
  · exact ⟨h.blk.kep hk h1, ⟨⟨h.sl.ints.1, fun hn => absurd hn (by omega)⟩, h.sl.cap, h.sl.nil⟩, h.len, h.bytes, h.le, h.apart⟩
  · exact h.kep hk h1 (h2 h0)
theorem Flt.kep {S : Nat → Prop} {w w' : World} {b : Nat} {F : Option Addr} {f : Option (Int × Int)} (h : Flt w b F f) (hk : Kep S w w') (h2 : ∀ x : Addr, F = some x → ¬ S x.block) : Flt w' b F f := by
  rcases h with h | ⟨e, p, fb, h1, h2', h3, h4, h5⟩
  · exact .inl h
  · exact .inr ⟨e, p, fb, h1, h2', h3, h4.kep hk (h2 _ h2'), h5⟩

theorem blk_there {w : World} {b : Nat} {C : Array Value} {t : TypeId} (h : Blk w b C t) (hn : 32 ≤ C.size) : w.there b 0 32 := fun j hj => by
  rw [Nat.zero_add]
  refine ⟨?_, h.frozen j⟩
  rw [h.cell j (Array.getElem?_eq_getElem (by omega))]
  rfl

end Cd
end Go.Proofs.Ytpfdakkameifkaa
