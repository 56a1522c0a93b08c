/-
  Journals as the walks have them: the lists of changes, the levels' rows and maps, a journal in memory. No condition.
-/
import Derived.Test.YtogphhhlbofgkaaPMem
import Derived.Test.YtogphhhlbofgkaaBk0
import Derived.Maps.OwnSet
import Derived.Maps.OwnIn
import Derived.Lib.SlKeysI
import Derived.LaidEqlPtr
namespace Go.Proofs.Ytogphhhlbofgkaa
open Go.RowKit Go.Shelf Go.Maps
set_option linter.unusedVariables false
namespace Jn
open Kk Pm Bk

/-! ### what the document says of journals -/
/-- A level: what the cells held when it was opened, and which cells were touched. -/
abbrev Lv := List Int × (Nat → Bool)
/-- A cell is touched in the topmost level. -/
def touch : List Lv → Nat → List Lv
  | [], _ => []
  | (w, t) :: r, i => (w, fun x => x == i || t x) :: r
/-- The topmost level is kept. -/
def keepS : List Lv → List Lv
  | [] => []
  | [_] => []
  | (_, t) :: (w2, t2) :: r => (w2, fun x => t x || t2 x) :: r
/-- Words, as many as there are cells. -/
def Cel (n : Nat) (zs : List Int) : Prop := zs.length = n ∧ Words zs
theorem Cel.len {n : Nat} {zs : List Int} (h : Cel n zs) : zs.length = n := h.1
theorem cel_set {n : Nat} {zs : List Int} (h : Cel n zs) {i : Nat} {v : Int} (h0 : 0 ≤ v) (h1 : v ≤ 18446744073709551615) : Cel n (zs.set i v) := ⟨by simp [h.1], words_set h.2 h0 h1⟩

/-! ### lists of changes -/
/-- Which change gives the cell i back, and what. -/
abbrev Ch := Nat × Int
/-- What the cells hold when changes are taken back, the newest one first. -/
def undoS (zs : List Int) : List Ch → List Int
  | [] => zs
  | c :: r => undoS (zs.set c.1 c.2) r
def has1 : List Ch → Nat → Bool
  | [], _ => false
  | c :: l, i => c.1 == i || has1 l i
theorem undoS_len (l : List Ch) : ∀ zs, (undoS zs l).length = zs.length := by
  induction l with
  | nil => intro zs; rfl
  | cons c r ih => intro zs; show (undoS (zs.set c.1 c.2) r).length = _; rw [ih]; simp
/-- Changes of cells that there are, each to a word, none of a cell twice. -/
structure Chs (n : Nat) (l : List Ch) : Prop where
  cell : ∀ c ∈ l, c.1 < n
  word : ∀ c ∈ l, 0 ≤ c.2 ∧ c.2 ≤ 18446744073709551615
  once : (l.map (·.1)).Nodup
theorem Chs.nil (n : Nat) : Chs n [] := ⟨by simp, by simp, by simp⟩
theorem has1_mem {l : List Ch} {i : Nat} : has1 l i = true ↔ i ∈ l.map (·.1) := by
  induction l with
  | nil => simp [has1]
  | cons c r ih =>
    show (c.1 == i || has1 r i) = true ↔ _
    rw [Bool.or_eq_true, ih, List.map_cons, List.mem_cons, beq_iff_eq, eq_comm]
theorem Chs.cons {n : Nat} {l : List Ch} (h : Chs n l) {i : Nat} {v : Int} (hi : i < n) (h0 : 0 ≤ v) (h1 : v ≤ 18446744073709551615) (hn : has1 l i = false) : Chs n ((i, v) :: l) := by
  refine ⟨?_, ?_, ?_⟩
  · intro c hc
    rcases List.mem_cons.1 hc with rfl | hc
    · exact hi
    · exact h.cell c hc
  · intro c hc
    rcases List.mem_cons.1 hc with rfl | hc
    · exact ⟨h0, h1⟩
    · exact h.word c hc
  · rw [List.map_cons, List.nodup_cons]
    exact ⟨fun hm => (by rw [has1_mem.2 hm] at hn; cases hn), h.once⟩
theorem Chs.lt_of {n : Nat} {l : List Ch} (h : Chs n l) {j : Nat} (hj : has1 l j = true) : j < n := by
  obtain ⟨c, hc, rfl⟩ := List.mem_map.1 (has1_mem.1 hj)
  exact h.cell c hc
theorem Chs.tail {n : Nat} {c : Ch} {l : List Ch} (h : Chs n (c :: l)) : Chs n l := ⟨fun x hx => h.cell x (List.mem_cons_of_mem _ hx), fun x hx => h.word x (List.mem_cons_of_mem _ hx), by have := h.once; rw [List.map_cons, List.nodup_cons] at this; exact this.2⟩
theorem cel_undo {n : Nat} : ∀ (l : List Ch) (zs : List Int), Cel n zs → Chs n l → Cel n (undoS zs l) := by
  intro l
  induction l with
  | nil => intro zs h _; exact h
  | cons c r ih => intro zs h hc; exact ih _ (cel_set h (hc.word c (by simp)).1 (hc.word c (by simp)).2) hc.tail
/-- A list of numbers, place by place. -/
theorem ext_get {a b : List Int} (hl : a.length = b.length) (h : ∀ i, i < a.length → a.getD i 0 = b.getD i 0) : a = b := by
  refine List.ext_getElem hl fun i h1 h2 => ?_
  have := h i h1
  rwa [Kk.getD_eq _ _ h1, Kk.getD_eq _ _ h2] at this
theorem get_set (zs : List Int) (i k : Nat) (v : Int) : (zs.set i v).getD k 0 = if i = k ∧ k < zs.length then v else zs.getD k 0 := by
  simp only [List.getD_eq_getElem?_getD, List.getElem?_set]
  by_cases h : i = k
  · subst h
    by_cases h2 : i < zs.length
    · simp [h2]
    · simp [h2]
  · simp [h]
/-- What stands at a place behind the undoing. -/
theorem get_undo (l : List Ch) (k : Nat) : ∀ zs, (has1 l k = false → (undoS zs l).getD k 0 = zs.getD k 0) := by
  induction l with
  | nil => intro zs _; rfl
  | cons c r ih =>
    intro zs h
    simp only [has1, Bool.or_eq_false_iff] at h
    show (undoS (zs.set c.1 c.2) r).getD k 0 = _
    rw [ih _ h.2, get_set, if_neg]
    intro hh
    have := h.1
    simp at this
    exact this hh.1
theorem get_undo_mem {n : Nat} (l : List Ch) : ∀ (zs : List Int) (c : Ch), zs.length = n → Chs n l → c ∈ l → (undoS zs l).getD c.1 0 = c.2 := by
  induction l with
  | nil => intro zs c _ _ h; cases h
  | cons d r ih =>
    intro zs c hl hc h
    show (undoS (zs.set d.1 d.2) r).getD c.1 0 = _
    rcases List.mem_cons.1 h with rfl | h
    · rw [get_undo r c.1 _ (by
        have := hc.once
        rw [List.map_cons, List.nodup_cons] at this
        exact Bool.eq_false_iff.2 fun e => this.1 (has1_mem.1 e)), get_set, if_pos ⟨rfl, by rw [hl]; exact hc.cell c (by simp)⟩]
    · exact ih _ c (by simpa using hl) hc.tail h
/-- What is done to a cell whose change is on the list, or is put on it, does not turn what the undoing gives. -/
theorem undo_set_in {n : Nat} {l : List Ch} (hc : Chs n l) {zs : List Int} (hl : zs.length = n) (i : Nat) (v : Int) (h : has1 l i = true) : undoS (zs.set i v) l = undoS zs l := by
  refine ext_get (by rw [undoS_len, undoS_len]; simp) fun k hk => ?_
  by_cases hh : has1 l k = true
  · obtain ⟨c, hm, rfl⟩ := List.mem_map.1 (has1_mem.1 hh)
    rw [get_undo_mem l _ c (by simpa using hl) hc hm, get_undo_mem l _ c hl hc hm]
  · have hf : has1 l k = false := by simpa using hh
    rw [get_undo l k _ hf, get_undo l k _ hf, get_set, if_neg]
    rintro ⟨rfl, _⟩
    rw [h] at hf; cases hf
theorem undo_set_new {n : Nat} {l : List Ch} (hc : Chs n l) {zs : List Int} (hl : zs.length = n) (i : Nat) (v : Int) (hi : i < n) : undoS (zs.set i v) ((i, zs.getD i 0) :: l) = undoS zs l := by
  show undoS ((zs.set i v).set i (zs.getD i 0)) l = _
  rw [List.set_set]
  congr 1
  refine ext_get (by simp) fun k hk => ?_
  rw [get_set]
  split
  · next h => rw [h.1]
  · rfl

/-- A change that is recorded: not where one of its cell is there. -/
def rec1 (l : List Ch) (c : Ch) : List Ch := if has1 l c.1 then l else c :: l
theorem Chs.rec1 {n : Nat} {l : List Ch} (h : Chs n l) {c : Ch} (hi : c.1 < n) (h0 : 0 ≤ c.2) (h1 : c.2 ≤ 18446744073709551615) : Chs n (rec1 l c) := by
  unfold Jn.rec1
  split
  · exact h
  · next hh => exact h.cons (i := c.1) (v := c.2) hi h0 h1 (by simpa using hh)
theorem has1_rec1 (l : List Ch) (c : Ch) (i : Nat) : has1 (rec1 l c) i = (i == c.1 || has1 l i) := by
  unfold rec1
  split
  · next h =>
    by_cases e : i = c.1
    · subst e; simp [h]
    · simp [e]
  · show (c.1 == i || has1 l i) = _
    by_cases e : i = c.1
    · subst e; simp
    · have : ¬ c.1 = i := fun x => e x.symm
      rw [beq_eq_false_iff_ne.2 e, beq_eq_false_iff_ne.2 this]
/-- A cell is set, and its change recorded. -/
theorem undo_rec1 {n : Nat} {l : List Ch} (hc : Chs n l) {zs : List Int} (hl : zs.length = n) (i : Nat) (v : Int) (hi : i < n) : undoS (zs.set i v) (rec1 l (i, zs.getD i 0)) = undoS zs l := by
  unfold rec1
  split
  · next h => exact undo_set_in hc hl i v h
  · exact undo_set_new hc hl i v hi
/-- All changes of a level above are recorded. -/
def recs (l : List Ch) : List Ch → List Ch
  | [] => l
  | c :: r => recs (rec1 l c) r
theorem Chs.recs {n : Nat} : ∀ (t : List Ch) {l : List Ch}, Chs n l → Chs n t → Chs n (Jn.recs l t) := by
  intro t
  induction t with
  | nil => intro l h _; exact h
  | cons c r ih => intro l h ht; exact ih (h.rec1 (ht.cell c (by simp)) (ht.word c (by simp)).1 (ht.word c (by simp)).2) ht.tail
theorem has1_recs : ∀ (t l : List Ch) (i : Nat), has1 (recs l t) i = (has1 t i || has1 l i) := by
  intro t
  induction t with
  | nil => intro l i; simp [recs, has1]
  | cons c r ih =>
    intro l i
    show has1 (recs (rec1 l c) r) i = _
    rw [ih, has1_rec1]
    show _ = ((c.1 == i || has1 r i) || has1 l i)
    have : (c.1 == i) = (i == c.1) := by rw [Bool.eq_iff_iff, beq_iff_eq, beq_iff_eq]; exact ⟨fun h => h.symm, fun h => h.symm⟩
    rw [this]
    cases (i == c.1) <;> cases has1 r i <;> simp
theorem mem_recs {n : Nat} : ∀ (t : List Ch) {l : List Ch}, Chs n t → ∀ c, (c ∈ recs l t ↔ c ∈ l ∨ (c ∈ t ∧ has1 l c.1 = false)) := by
  intro t
  induction t with
  | nil => intro l _ c; simp [recs]
  | cons d r ih =>
    intro l ht c
    show c ∈ recs (rec1 l d) r ↔ _
    rw [ih ht.tail c, has1_rec1]
    have hd : ∀ c ∈ r, c.1 ≠ d.1 := fun c hc e => by
      have := ht.once
      rw [List.map_cons, List.nodup_cons] at this
      exact this.1 (List.mem_map.2 ⟨c, hc, e⟩)
    unfold rec1
    by_cases h : has1 l d.1 = true
    · rw [if_pos h]
      constructor
      · rintro (h1 | ⟨h1, h2⟩)
        · exact .inl h1
        · exact .inr ⟨List.mem_cons_of_mem _ h1, by simp only [Bool.or_eq_false_iff] at h2; exact h2.2⟩
      · rintro (h1 | ⟨h1, h2⟩)
        · exact .inl h1
        · rcases List.mem_cons.1 h1 with rfl | h1
          · rw [h] at h2; cases h2
          · exact .inr ⟨h1, by simp [h2, hd c h1]⟩
    · have hf : has1 l d.1 = false := by simpa using h
      rw [if_neg h]
      constructor
      · rintro (h1 | ⟨h1, h2⟩)
        · rcases List.mem_cons.1 h1 with rfl | h1
          · exact .inr ⟨by simp, hf⟩
          · exact .inl h1
        · exact .inr ⟨List.mem_cons_of_mem _ h1, by simp only [Bool.or_eq_false_iff] at h2; exact h2.2⟩
      · rintro (h1 | ⟨h1, h2⟩)
        · exact .inl (List.mem_cons_of_mem _ h1)
        · rcases List.mem_cons.1 h1 with rfl | h1
          · exact .inl (by simp)
          · exact .inr ⟨h1, by simp [h2, hd c h1]⟩
/-- What is kept is undone with the level below. -/
theorem undo_recs {n : Nat} {t l : List Ch} (ht : Chs n t) (hl : Chs n l) {zs : List Int} (hz : zs.length = n) : undoS zs (recs l t) = undoS (undoS zs t) l := by
  have hr := hl.recs t ht
  have hu : (undoS zs t).length = n := by rw [undoS_len, hz]
  refine ext_get (by rw [undoS_len, undoS_len, undoS_len]) fun k hk => ?_
  by_cases h1 : has1 l k = true
  · obtain ⟨c, hm, rfl⟩ := List.mem_map.1 (has1_mem.1 h1)
    rw [get_undo_mem _ _ c hu hl hm, get_undo_mem _ _ c hz hr ((mem_recs t ht c).2 (.inl hm))]
  · have f1 : has1 l k = false := by simpa using h1
    rw [get_undo l k _ f1]
    by_cases h2 : has1 t k = true
    · obtain ⟨c, hm, rfl⟩ := List.mem_map.1 (has1_mem.1 h2)
      rw [get_undo_mem _ _ c hz ht hm, get_undo_mem _ _ c hz hr ((mem_recs t ht c).2 (.inr ⟨hm, f1⟩))]
    · have f2 : has1 t k = false := by simpa using h2
      rw [get_undo t k _ f2, get_undo _ k _ (by rw [has1_recs, f1, f2]; rfl)]
end Jn
end Go.Proofs.Ytogphhhlbofgkaa
