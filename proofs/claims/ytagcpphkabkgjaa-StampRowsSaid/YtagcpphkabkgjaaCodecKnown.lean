/-
  The walk of the law CodecKnown: the chapter's examples are answered as it says. No condition.
-/
import Derived.Test.YtagcpphkabkgjaaReader6
import Derived.Test.YtagcpphkabkgjaaWriter2
import Derived.Lib.SlBytesConst
import Derived.Lib.SmallJoins
namespace Go.Proofs.Ytagcpphkabkgjaa
open Go.RowKit Go.Shelf
set_option linter.unusedVariables false
namespace Cd

theorem enc_127 : enc 127 = [127] := by decide
theorem enc_128 : enc 128 = [128, 1] := by decide
theorem enc_max : (enc 18446744073709551615).length = 10 := by decide
theorem enc_5 : enc 5 = [5] := by decide
theorem enc_2 : enc 2 = [2] := by decide
theorem enc_1 : enc 1 = [1] := by decide
theorem way_80 : Way [128] 0 0 0 6 0 := .inr (.inl ⟨0, rfl, by decide, rfl, rfl, rfl, .inl ⟨rfl, by decide, by intro i h; match i, h with | 0, _ => decide⟩⟩)
theorem way_out : Way [0] 2 0 0 3 0 := .inl ⟨.inr (by decide), rfl, rfl, rfl, rfl⟩
theorem way_nine : Way [255, 255, 255, 255, 255, 255, 255, 255, 255, 2] 0 0 0 5 0 := .inr (.inl ⟨0, rfl, by decide, rfl, rfl, rfl, .inr (.inr ⟨rfl, 9, by decide, by decide, by decide, by decide, by decide, .inr ⟨rfl, by decide⟩⟩)⟩)
theorem bytes_128 : Bytes [128] := bytes_of (by decide)
theorem bytes_0 : Bytes [0] := bytes_of (by decide)
theorem bytes_nine : Bytes [255, 255, 255, 255, 255, 255, 255, 255, 255, 2] := bytes_of (by decide)
abbrev ex : List Int := [5, 2, 97, 98, 1]
theorem bytes_ex : Bytes ex := bytes_of (by decide)
theorem rn_0 : RN ex 0 none 0 9 5 1 none := .inr ⟨rfl, 1, 0, 0, ⟨5, 1, 0, 0, .inr (.inr ⟨0, 0, rfl, by decide, by decide, by intro i h; omega, by decide, by decide, by decide, by decide, rfl, rfl, rfl⟩), by decide, by decide, .inr (.inr ⟨rfl, by decide, by decide, rfl, rfl, rfl, rfl⟩)⟩, .inl ⟨rfl, rfl, rfl⟩, by decide, by decide⟩
theorem rb_1 : RB ex 1 none 9 [97, 98] 4 none := .inr ⟨rfl, 4, 0, 0, ⟨2, 2, 0, 0, .inr (.inr ⟨1, 0, rfl, by decide, by decide, by intro i h; omega, by decide, by decide, by decide, by decide, rfl, rfl, rfl⟩), by decide, by decide, .inr (.inr (.inr ⟨2, 2, rfl, rfl, by decide, rfl, by decide, by decide, rfl, rfl, rfl, rfl⟩))⟩, .inl ⟨rfl, rfl, rfl⟩, by decide, by decide⟩
theorem rn_4 : RN ex 4 none 2 9 0 4 (some (3, 4)) := .inr ⟨rfl, 0, 3, 4, ⟨1, 5, 0, 0, .inr (.inr ⟨4, 0, rfl, by decide, by decide, by intro i h; omega, by decide, by decide, by decide, by decide, rfl, rfl, rfl⟩), by decide, by decide, .inr (.inl ⟨rfl, .inl (by decide), rfl, rfl, rfl, rfl⟩)⟩, .inr ⟨by decide, rfl, rfl⟩, by decide, fun _ => rfl⟩
theorem ru_4 : RU ex 4 (some (3, 4)) 0 4 (some (3, 4)) := .inl ⟨_, rfl, rfl, rfl, rfl⟩

theorem sl_lit1 (w : World) (o : Obj) (zs : List Int) : Sl ((w.alloc o).alloc (.cells (zs.map (Value.int .u8)).toArray 5)) (some ⟨w.heap.size + 1, 0, none⟩) zs.length zs.length zs := by
  have h := sl_lit (w.alloc o) zs
  rwa [World.size_alloc] at h

theorem sl_mark (w : World) (zs : List Int) (fr : Nat × Nat) : Sl (w.alloc (.cells (zs.map (Value.int .u8)).toArray 5 fr)) (some ⟨w.heap.size, 0, none⟩) zs.length zs.length zs := by
  refine ⟨⟨rfl, fun hn => ⟨w.heap.size, 0, rfl, by simp, fun i hi => ?_⟩⟩, Nat.le_refl _, fun h => by cases h⟩
  rw [Nat.zero_add, World.cell?_alloc_mark, List.getElem?_toArray, List.getElem?_map, List.getElem?_eq_getElem hi, getD_eq _ _ hi]
  rfl

/-- A writer's call keeps what was there ahead of the writer. -/
theorem step_bel {w w1 w2 : World} {b : Nat} {L : Int} {v : Value} {err : Int} {out : List Int} {base : Nat} (hb : Bel w w1) (h : WS w1 b L v err out base) (h1 : w.heap.size ≤ b) (h2 : w.heap.size ≤ base) (hk : Kep (Own2 b v) w1 w2) : Bel w w2 :=
  Kep.bel hb hk (fun k hs => by
    rcases hs with rfl | hs
    · exact h1
    · exact Nat.le_trans h2 (h.row.lt k hs).1)
theorem after_ok {w : World} {b : Nat} {L r : Int} {out more : List Int} {base : Nat} (h : After w b L r out more base) (hf : ((out ++ more).length : Int) ≤ L) : r = 0 ∧ ∃ v, WS w b L v 0 (out ++ more) base := by
  rcases h with ⟨h1, _, h3⟩ | ⟨h1, h2, _⟩
  · exact ⟨h1, h3⟩
  · omega
theorem after_long {w : World} {b : Nat} {L r : Int} {out more : List Int} {base : Nat} (h : After w b L r out more base) (hf : L < ((out ++ more).length : Int)) : r = 4 ∧ WS w b L (.slice none 0 0) 4 [] base := by
  rcases h with ⟨h1, h2, _⟩ | ⟨h1, _, h3⟩
  · omega
  · exact ⟨h1, h3⟩

end Cd
end Go.Proofs.Ytagcpphkabkgjaa
