/-
  A row of cells that is stored into the middle of a block that is known whole. No condition.
-/
import Derived.Test.YtaniijpppmipbaaDoorKPerm
namespace Go.Proofs.YtaniijpppmipbaaDoor
open Go.RowKit Go.Shelf
set_option linter.unusedVariables false
namespace Kk

def putA (C : Array Value) (o : Nat) : List Value → Array Value
  | [] => C
  | v :: r => putA (C.setIfInBounds o v) (o + 1) r
theorem blk_setCells {b : Nat} {t : TypeId} : ∀ (vs : List Value) (o : Nat) (w : World) (C : Array Value), Blk w b C t → Blk (w.setCells b o vs) b (putA C o vs) t
  | [], _, _, _, h => h
  | v :: r, o, w, C, h => blk_setCells r (o + 1) (w.setCell ⟨b, o, none⟩ v) (C.setIfInBounds o v) (h.set o v)
theorem putA_mid : ∀ (vs mid pre post : List Value), mid.length = vs.length → putA (pre ++ (mid ++ post)).toArray pre.length vs = (pre ++ (vs ++ post)).toArray
  | [], mid, pre, post, h => by
    have : mid = [] := List.length_eq_zero_iff.1 h
    subst this
    rfl
  | v :: r, [], pre, post, h => by cases h
  | v :: r, m :: mid, pre, post, h => by
    have e : (pre ++ (m :: mid ++ post)).toArray.setIfInBounds pre.length v = ((pre ++ [v]) ++ (mid ++ post)).toArray := by
      rw [List.setIfInBounds_toArray, List.set_append_right _ _ (Nat.le_refl _), Nat.sub_self]
      simp
    show putA ((pre ++ (m :: mid ++ post)).toArray.setIfInBounds pre.length v) (pre.length + 1) r = _
    rw [e, show pre.length + 1 = (pre ++ [v]).length by simp, putA_mid r mid (pre ++ [v]) post (by simpa using h)]
    simp
/-- A row stored into the middle. -/
theorem Blk.mid {w : World} {b : Nat} {t : TypeId} {pre mid post vs : List Value} (h : Blk w b (pre ++ (mid ++ post)).toArray t) (hl : mid.length = vs.length) : Blk (w.setCells b pre.length vs) b (pre ++ (vs ++ post)).toArray t := by
  have := blk_setCells vs pre.length w _ h
  rwa [putA_mid vs mid pre post hl] at this
theorem Blk.whole {w : World} {b : Nat} {t : TypeId} {C : Array Value} {vs : List Value} (h : Blk w b C t) (hl : C.size = vs.length) : Blk (w.setCells b 0 vs) b vs.toArray t := by
  have h2 : Blk w b ([] ++ (C.toList ++ [])).toArray t := by simpa using h
  have := Blk.mid (vs := vs) h2 (by simpa using hl)
  simpa using this
theorem Blk.range {w : World} {b : Nat} {t : TypeId} {pre mid post : List Value} (h : Blk w b (pre ++ (mid ++ post)).toArray t) : w.rangeAt b pre.length mid := fun j v hv => by
  have hj : j < mid.length := (List.getElem?_eq_some_iff.1 hv).1
  refine h.cell _ ?_
  rw [List.getElem?_toArray, List.getElem?_append_right (by omega), Nat.add_sub_cancel_left, List.getElem?_append_left hj]
  exact hv
theorem Blk.there {w : World} {b : Nat} {t : TypeId} {C : Array Value} (h : Blk w b C t) (o n : Nat) (hn : o + n ≤ C.size) : w.there b o n := fun j hj =>
  ⟨by rw [h.cell (o + j) (Array.getElem?_eq_getElem (by omega))]; rfl, h.frozen _⟩
theorem st_stored {w : World} {b : Nat} {Z : List Value} {A : List Wd} {r : Int} (hZ : Z = stCells A r) (hA : A.length = 25) {C : Array Value} (hb : Blk w b C 54) (hC : C.size = 50) : St (w.setCells b 0 Z) b A r := by
  subst hZ
  exact ⟨hA, hb.whole (by rw [hC, len_st hA])⟩
end Kk
end Go.Proofs.YtaniijpppmipbaaDoor
