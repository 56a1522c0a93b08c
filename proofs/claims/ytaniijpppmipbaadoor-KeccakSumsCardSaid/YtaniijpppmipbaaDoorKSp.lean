/-
  The cells of a sponge in a block, behind others: how they are read and turned. No condition.
-/
import Derived.Test.YtaniijpppmipbaaDoorKPermute
import Derived.Laws.CopyOwn
import Derived.Lib.SliceRun
namespace Go.Proofs.YtaniijpppmipbaaDoor
open Go.RowKit Go.Shelf
set_option linter.unusedVariables false
namespace Kk

abbrev B8 (z : Int) : Value := .int .u8 z
/-- The cells of a sponge: its state, its waiting bytes, their count, how many bytes came in. -/
def spCells (A : List Wd) (r : Int) (bs : List Int) (c n : Int) : List Value := stCells A r ++ (bs.map B8 ++ [.int .i64 c, .int .i64 n])
theorem len_sp {A : List Wd} {bs : List Int} (hA : A.length = 25) (hb : bs.length = 136) (r c n : Int) : (spCells A r bs c n).length = 188 := by
  simp [spCells, len_st hA, hb]
theorem all_sp (A : List Wd) (r : Int) (bs : List Int) (c n : Int) : ∀ v ∈ spCells A r bs c n, v.oneCell' = true := by
  intro v hv
  rcases List.mem_append.1 hv with h | h
  · exact all_st A r v h
  · rcases List.mem_append.1 h with h | h
    · obtain ⟨z, _, rfl⟩ := List.mem_map.1 h; rfl
    · simp at h; rcases h with rfl | rfl <;> rfl
/-- A sponge in a block, behind the cells pre. -/
structure Sp (w : World) (b : Nat) (t : TypeId) (pre : List Value) (A : List Wd) (r : Int) (bs : List Int) (c n : Int) : Prop where
  blk : Blk w b (pre ++ spCells A r bs c n).toArray t
  la : A.length = 25
  lb : bs.length = 136
theorem get_append {α : Type} {pre l : List α} {i : Nat} {v : α} (h : l[i]? = some v) : (pre ++ l)[pre.length + i]? = some v := by
  rw [List.getElem?_append_right (by omega), Nat.add_sub_cancel_left]; exact h
theorem get_head {α : Type} {l m : List α} {i : Nat} {v : α} (h : l[i]? = some v) : (l ++ m)[i]? = some v := by
  rw [List.getElem?_append_left (List.getElem?_eq_some_iff.1 h).1]; exact h
theorem set_append {α : Type} (pre l : List α) (i : Nat) (v : α) : (pre ++ l).set (pre.length + i) v = pre ++ l.set i v := by
  rw [List.set_append_right _ _ (by omega), Nat.add_sub_cancel_left]
theorem set_head {α : Type} (l m : List α) {i : Nat} (h : i < l.length) (v : α) : (l ++ m).set i v = l.set i v ++ m := List.set_append_left _ _ h
section
variable {w : World} {b : Nat} {t : TypeId} {pre : List Value} {A : List Wd} {r : Int} {bs : List Int} {c n : Int}
theorem Sp.cell (h : Sp w b t pre A r bs c n) {i : Nat} {v : Value} (hv : (spCells A r bs c n)[i]? = some v) : w.cell? ⟨b, pre.length + i, none⟩ = some v :=
  h.blk.cell _ (by rw [List.getElem?_toArray]; exact get_append hv)
theorem Sp.frozen (h : Sp w b t pre A r bs c n) (i : Nat) : w.frozen? ⟨b, i, none⟩ = false := h.blk.frozen i
theorem Sp.word (h : Sp w b t pre A r bs c n) {i : Nat} (hi : i < 25) : w.cell? ⟨b, pre.length + i, none⟩ = some (.int .u64 (U (g A i))) := h.cell (get_head (st_word h.la r hi))
theorem sp_byte (hA : A.length = 25) (hb : bs.length = 136) {i : Nat} (hi : i < 136) : (spCells A r bs c n)[50 + i]? = some (.int .u8 (bs.getD i 0)) := by
  have := get_append (pre := stCells A r) (get_head (m := [.int .i64 c, .int .i64 n]) (show (bs.map B8)[i]? = some (.int .u8 (bs.getD i 0)) by
    rw [List.getElem?_map, List.getD_eq_getElem?_getD, List.getElem?_eq_getElem (by omega)]; rfl))
  rwa [len_st hA] at this
theorem Sp.byte (h : Sp w b t pre A r bs c n) {i : Nat} (hi : i < 136) : w.cell? ⟨b, pre.length + 50 + i, none⟩ = some (.int .u8 (bs.getD i 0)) := by
  rw [Nat.add_assoc]; exact h.cell (sp_byte h.la h.lb hi)
theorem sp_count (hA : A.length = 25) (hb : bs.length = 136) : (spCells A r bs c n)[186]? = some (.int .i64 c) := by
  have := get_append (pre := stCells A r) (get_append (pre := bs.map B8) (show ([.int .i64 c, .int .i64 n] : List Value)[0]? = some (.int .i64 c) from rfl))
  rwa [len_st hA, List.length_map, hb] at this
theorem sp_size (hA : A.length = 25) (hb : bs.length = 136) : (spCells A r bs c n)[187]? = some (.int .i64 n) := by
  have := get_append (pre := stCells A r) (get_append (pre := bs.map B8) (show ([.int .i64 c, .int .i64 n] : List Value)[1]? = some (.int .i64 n) from rfl))
  rwa [len_st hA, List.length_map, hb] at this
theorem Sp.count (h : Sp w b t pre A r bs c n) : w.cell? ⟨b, pre.length + 50 + 136, none⟩ = some (.int .i64 c) := by
  rw [show pre.length + 50 + 136 = pre.length + 186 by omega]; exact h.cell (sp_count h.la h.lb)
theorem Sp.size (h : Sp w b t pre A r bs c n) : w.cell? ⟨b, pre.length + 187, none⟩ = some (.int .i64 n) := h.cell (sp_size h.la h.lb)
theorem Sp.set (h : Sp w b t pre A r bs c n) {i : Nat} {v : Value} {A' : List Wd} {r' : Int} {bs' : List Int} {c' n' : Int} (e : (spCells A r bs c n).set i v = spCells A' r' bs' c' n') (hA : A'.length = 25) (hb : bs'.length = 136) : Sp (w.setCell ⟨b, pre.length + i, none⟩ v) b t pre A' r' bs' c' n' := by
  refine ⟨?_, hA, hb⟩
  have := h.blk.set (pre.length + i) v
  rwa [List.setIfInBounds_toArray, set_append, e] at this
theorem Sp.setWord (h : Sp w b t pre A r bs c n) {i : Nat} (hi : i < 25) (x : Wd) : Sp (w.setCell ⟨b, pre.length + i, none⟩ (.int .u64 (U x))) b t pre (A.set i x) r bs c n :=
  h.set (by unfold spCells; rw [set_head _ _ (by rw [len_st h.la]; omega), st_set h.la r hi]) (by rw [List.length_set]; exact h.la) h.lb
theorem Sp.setByte (h : Sp w b t pre A r bs c n) {i : Nat} (hi : i < 136) (z : Int) : Sp (w.setCell ⟨b, pre.length + 50 + i, none⟩ (.int .u8 z)) b t pre A r (bs.set i z) c n := by
  rw [Nat.add_assoc]
  refine h.set ?_ h.la (by rw [List.length_set]; exact h.lb)
  unfold spCells
  have e := set_append (stCells A r) (bs.map B8 ++ [.int .i64 c, .int .i64 n]) i (.int .u8 z)
  rw [len_st h.la] at e
  rw [e, set_head _ _ (by rw [List.length_map, h.lb]; exact hi), ← List.map_set]
theorem Sp.setCount (h : Sp w b t pre A r bs c n) (c' : Int) : Sp (w.setCell ⟨b, pre.length + 50 + 136, none⟩ (.int .i64 c')) b t pre A r bs c' n := by
  rw [show pre.length + 50 + 136 = pre.length + 186 by omega]
  refine h.set ?_ h.la h.lb
  unfold spCells
  have e := set_append (stCells A r) (bs.map B8 ++ [.int .i64 c, .int .i64 n]) 136 (.int .i64 c')
  have e2 := set_append (bs.map B8) ([.int .i64 c, .int .i64 n]) 0 (.int .i64 c')
  rw [len_st h.la] at e
  rw [List.length_map, h.lb] at e2
  rw [e, e2]
  rfl
theorem Sp.setSize (h : Sp w b t pre A r bs c n) (n' : Int) : Sp (w.setCell ⟨b, pre.length + 187, none⟩ (.int .i64 n')) b t pre A r bs c n' := by
  refine h.set ?_ h.la h.lb
  unfold spCells
  have e := set_append (stCells A r) (bs.map B8 ++ [.int .i64 c, .int .i64 n]) 137 (.int .i64 n')
  have e2 := set_append (bs.map B8) ([.int .i64 c, .int .i64 n]) 1 (.int .i64 n')
  rw [len_st h.la] at e
  rw [List.length_map, h.lb] at e2
  rw [e, e2]
  rfl
theorem Sp.kep {S : Nat → Prop} {w' : World} (h : Sp w b t pre A r bs c n) (hk : Kep S w w') (hs : ¬ S b) : Sp w' b t pre A r bs c n := ⟨h.blk.kep hk hs, h.la, h.lb⟩
theorem Sp.bel {w' : World} (h : Sp w b t pre A r bs c n) (hb : Bel w w') : Sp w' b t pre A r bs c n := ⟨h.blk.bel hb, h.la, h.lb⟩
theorem Sp.drew (h : Sp w b t pre A r bs c n) : Sp w.drew b t pre A r bs c n := h.bel (Bel.refl w).drew
/-- The whole sponge. -/
theorem Sp.range (h : Sp w b t pre A r bs c n) : w.rangeAt b pre.length (spCells A r bs c n) := Blk.range (post := []) (by rw [List.append_nil]; exact h.blk)
/-- Its state. -/
theorem Sp.stRange (h : Sp w b t pre A r bs c n) : w.rangeAt b pre.length (stCells A r) := Blk.range h.blk
theorem Sp.stThere (h : Sp w b t pre A r bs c n) : w.there b pre.length 50 := h.blk.there _ _ (by rw [List.size_toArray, List.length_append, len_sp h.la h.lb]; omega)
theorem Sp.there (h : Sp w b t pre A r bs c n) {o m : Nat} (hm : o + m ≤ pre.length + 188) : w.there b o m := h.blk.there _ _ (by rw [List.size_toArray, List.length_append, len_sp h.la h.lb]; omega)
theorem Sp.stSet (h : Sp w b t pre A r bs c n) {A' : List Wd} (hA : A'.length = 25) (r' : Int) : Sp (w.setCells b pre.length (stCells A' r')) b t pre A' r' bs c n :=
  ⟨Blk.mid h.blk (by rw [len_st h.la, len_st hA]), hA, h.lb⟩
/-- Bytes stored into those that wait. -/
theorem Sp.bytesSet (h : Sp w b t pre A r bs c n) {k : Nat} {ys : List Int} (hk : k + ys.length ≤ 136) : Sp (w.setCells b (pre.length + 50 + k) (ys.map B8)) b t pre A r (bs.take k ++ (ys ++ bs.drop (k + ys.length))) c n := by
  have hb := h.lb
  refine ⟨?_, h.la, by simp; omega⟩
  have e : pre ++ spCells A r bs c n = (pre ++ (stCells A r ++ (bs.take k).map B8)) ++ (((bs.drop k).take ys.length).map B8 ++ ((bs.drop (k + ys.length)).map B8 ++ [.int .i64 c, .int .i64 n])) := by
    unfold spCells
    have : bs.map B8 = (bs.take k).map B8 ++ (((bs.drop k).take ys.length).map B8 ++ (bs.drop (k + ys.length)).map B8) := by
      rw [← List.map_append, ← List.map_append]
      congr 1
      rw [← List.drop_drop, List.take_append_drop, List.take_append_drop]
    rw [this]
    simp only [List.append_assoc]
  have h1 := h.blk
  rw [e] at h1
  have h2 := Blk.mid (vs := ys.map B8) h1 (by simp; omega)
  rw [show (pre ++ (stCells A r ++ (bs.take k).map B8)).length = pre.length + 50 + k by simp [len_st h.la]; omega] at h2
  have e2 : (pre ++ (stCells A r ++ (bs.take k).map B8)) ++ (ys.map B8 ++ ((bs.drop (k + ys.length)).map B8 ++ [.int .i64 c, .int .i64 n])) = pre ++ spCells A r (bs.take k ++ (ys ++ bs.drop (k + ys.length))) c n := by
    unfold spCells
    simp [List.append_assoc]
  rwa [e2] at h2
end
end Kk
end Go.Proofs.YtaniijpppmipbaaDoor
