/-
  The cells of a state; what addKey of a state answers in this program.
-/
import Derived.Test.YtaniijpppmipbaaDoorKRot
namespace Go.Proofs.YtaniijpppmipbaaDoor
open Go.RowKit Go.Shelf
set_option linter.unusedVariables false
namespace Kk

abbrev V (x : Wd) : Value := .int .u64 (U x)
/-- The cells of a state: its words, its keys, its round. -/
def stCells (A : List Wd) (r : Int) : List Value := A.map V ++ (K.map V ++ [.int .i64 r])
theorem len_K : K.length = 24 := rfl
theorem len_st {A : List Wd} (h : A.length = 25) (r : Int) : (stCells A r).length = 50 := by simp [stCells, h, len_K]
theorem st_word {A : List Wd} (h : A.length = 25) (r : Int) {i : Nat} (hi : i < 25) : (stCells A r)[i]? = some (V (g A i)) := by
  unfold stCells g
  rw [List.getElem?_append_left (by simp; omega), List.getElem?_map, List.getD_eq_getElem?_getD, List.getElem?_eq_getElem (by omega)]
  rfl
theorem st_key {A : List Wd} (h : A.length = 25) (r : Int) {i : Nat} (hi : i < 24) : (stCells A r)[25 + i]? = some (V (g K i)) := by
  unfold stCells
  unfold g
  rw [List.getElem?_append_right (by simp; omega), List.length_map, h, Nat.add_sub_cancel_left, List.getElem?_append_left (by simp [len_K]; omega), List.getElem?_map, List.getD_eq_getElem?_getD, List.getElem?_eq_getElem (by rw [len_K]; omega)]
  rfl
theorem st_round {A : List Wd} (h : A.length = 25) (r : Int) : (stCells A r)[49]? = some (.int .i64 r) := by
  unfold stCells
  rw [List.getElem?_append_right (by simp; omega), List.length_map, h]
  rfl
theorem st_set {A : List Wd} (h : A.length = 25) (r : Int) {i : Nat} (hi : i < 25) (x : Wd) : (stCells A r).set i (V x) = stCells (A.set i x) r := by
  unfold stCells
  rw [List.set_append_left _ _ (by simp; omega), List.map_set]
theorem st_setRound {A : List Wd} (h : A.length = 25) (r r' : Int) : (stCells A r).set 49 (.int .i64 r') = stCells A r' := by
  unfold stCells
  rw [List.set_append_right _ _ (by simp; omega), List.length_map, h, List.set_append_right _ _ (by simp [len_K])]
  rfl

/-- A state's block. -/
def St (w : World) (b : Nat) (A : List Wd) (r : Int) : Prop := A.length = 25 ∧ Blk w b (stCells A r).toArray 54
theorem St.len {w : World} {b : Nat} {A : List Wd} {r : Int} (h : St w b A r) : A.length = 25 := h.1
theorem St.word {w : World} {b : Nat} {A : List Wd} {r : Int} (h : St w b A r) {i : Nat} (hi : i < 25) : w.cell? ⟨b, i, none⟩ = some (.int .u64 (U (g A i))) :=
  h.2.cell i (by rw [List.getElem?_toArray]; exact st_word h.1 r hi)
theorem St.key {w : World} {b : Nat} {A : List Wd} {r : Int} (h : St w b A r) {i : Nat} (hi : i < 24) : w.cell? ⟨b, 25 + i, none⟩ = some (.int .u64 (U (g K i))) :=
  h.2.cell (25 + i) (by rw [List.getElem?_toArray]; exact st_key h.1 r hi)
theorem St.rnd {w : World} {b : Nat} {A : List Wd} {r : Int} (h : St w b A r) : w.cell? ⟨b, 49, none⟩ = some (.int .i64 r) :=
  h.2.cell 49 (by rw [List.getElem?_toArray]; exact st_round h.1 r)
theorem St.frozen {w : World} {b : Nat} {A : List Wd} {r : Int} (h : St w b A r) (i : Nat) : w.frozen? ⟨b, i, none⟩ = false := h.2.frozen i
theorem St.set {w : World} {b : Nat} {A : List Wd} {r : Int} (h : St w b A r) {i : Nat} (hi : i < 25) (x : Wd) : St (w.setCell ⟨b, i, none⟩ (.int .u64 (U x))) b (A.set i x) r :=
  ⟨by rw [List.length_set]; exact h.1, by
    have := h.2.set i (.int .u64 (U x))
    rwa [List.setIfInBounds_toArray, st_set h.1 r hi] at this⟩
theorem St.setRound {w : World} {b : Nat} {A : List Wd} {r : Int} (h : St w b A r) (r' : Int) : St (w.setCell ⟨b, 49, none⟩ (.int .i64 r')) b A r' :=
  ⟨h.1, by
    have := h.2.set 49 (.int .i64 r')
    rwa [List.setIfInBounds_toArray, st_setRound h.1 r r'] at this⟩
theorem St.kep {S : Nat → Prop} {w w' : World} {b : Nat} {A : List Wd} {r : Int} (h : St w b A r) (hk : Kep S w w') (hs : ¬ S b) : St w' b A r := ⟨h.1, h.2.kep hk hs⟩
theorem St.bel {w w' : World} {b : Nat} {A : List Wd} {r : Int} (h : St w b A r) (hb : Bel w w') : St w' b A r := ⟨h.1, h.2.bel hb⟩
theorem St.drew {w : World} {b : Nat} {A : List Wd} {r : Int} (h : St w b A r) : St w.drew b A r := h.bel (Bel.refl w).drew
theorem St.drewN {w : World} {b : Nat} {A : List Wd} {r : Int} (h : St w b A r) (n : Nat) : St (w.drewN n) b A r := h.bel ((Bel.refl w).drewN n)

set_option maxRecDepth 100000 in
set_option maxHeartbeats 1000000 in
theorem addKey (b : Nat) (A : List Wd) (r : Nat) (w : World) (h : St w b A r) (hr : r < 24) :
    Calls Tryd.prog 58 #[.pointer (some ⟨b, 0, none⟩)] w fun e w' => e = .returned (.tuple #[]) ∧ St w' b (iota A (g K r)) r ∧ Kep (fun i => i = b) w w' := by
  have c0 := h.word (i := 0) (by omega)
  have ck := h.key hr
  have cr := h.rnd
  have f0 := h.frozen 0
  have hx := xor_u (g A 0) (g K r)
  have H := Lib.hid h
  clear h
  go_enter Tryd.func58, Tryd.ntmps58
  go_wp2
  go_region
  go_wp2
  go_end0
  refine ⟨rfl, ?_, ?_⟩
  · exact (H.out.set (by omega) _).drew
  · exact ((Kep.refl _ _).set_self _ _).drew
end Kk
end Go.Proofs.YtaniijpppmipbaaDoor
