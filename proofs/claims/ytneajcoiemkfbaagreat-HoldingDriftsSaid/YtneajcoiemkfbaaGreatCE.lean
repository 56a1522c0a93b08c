/-
  Texts of this claim, put together: Ho0, Ho1, Ho3, Ho2, Ho4. What each one says, and under which conditions, stands ahead of it.
-/
import Derived.Lib.SliceRun
import Derived.WalkSpells
import Derived.Test.YtneajcoiemkfbaaGreatTk
import Derived.Test.YtneajcoiemkfbaaGreatCQ
import Derived.Test.YtneajcoiemkfbaaGreatCD
import Derived.Test.YtneajcoiemkfbaaGreatCB

section
/-
  Holdings as the walks have them: classes and positions as rows of six numbers, in order; where one is found, what a list is with another one. No program.
-/
namespace Go.Proofs.YtneajcoiemkfbaaGreat
open Go.RowKit Go.Shelf
set_option linter.unusedVariables false
namespace Ho

/-- A class: stamp (four), tokens, shares; a position: owner, stamp (four), shares. -/
abbrev R6 := Int × Int × Int × Int × Int × Int
/-- The order of classes, and of positions. -/
def ordC : R6 → R6 → Int
  | (a, b, c, d, _, _), (p, q, r, s, _, _) => Sm.cmp a b c d p q r s
def ordP : R6 → R6 → Int
  | (a, b, c, d, e, _), (p, q, r, s, t, _) => if a < p then -1 else if p < a then 1 else Sm.cmp b c d e q r s t

def Lt (a b c d e f g h : Int) : Prop := a < e ∨ (a = e ∧ (b < f ∨ (b = f ∧ (c < g ∨ (c = g ∧ d < h)))))
theorem cmp_cases (a b c d e f g h : Int) : (Sm.cmp a b c d e f g h = -1 ∧ Lt a b c d e f g h) ∨ (Sm.cmp a b c d e f g h = 0 ∧ a = e ∧ b = f ∧ c = g ∧ d = h) ∨ (Sm.cmp a b c d e f g h = 1 ∧ Lt e f g h a b c d) := by
  unfold Sm.cmp Sm.cmpL Sm.cmpL Sm.cmpL Sm.cmpL Sm.cmpL Lt
  by_cases h1 : a < e
  · rw [if_pos h1]; exact .inl ⟨rfl, .inl h1⟩
  rw [if_neg h1]
  by_cases h2 : e < a
  · rw [if_pos h2]; exact .inr (.inr ⟨rfl, .inl h2⟩)
  rw [if_neg h2]
  by_cases h3 : b < f
  · rw [if_pos h3]; exact .inl ⟨rfl, by omega⟩
  rw [if_neg h3]
  by_cases h4 : f < b
  · rw [if_pos h4]; exact .inr (.inr ⟨rfl, by omega⟩)
  rw [if_neg h4]
  by_cases h5 : c < g
  · rw [if_pos h5]; exact .inl ⟨rfl, by omega⟩
  rw [if_neg h5]
  by_cases h6 : g < c
  · rw [if_pos h6]; exact .inr (.inr ⟨rfl, by omega⟩)
  rw [if_neg h6]
  by_cases h7 : d < h
  · rw [if_pos h7]; exact .inl ⟨rfl, by omega⟩
  rw [if_neg h7]
  by_cases h8 : h < d
  · rw [if_pos h8]; exact .inr (.inr ⟨rfl, by omega⟩)
  rw [if_neg h8]
  exact .inr (.inl ⟨rfl, by omega, by omega, by omega, by omega⟩)
/-- Five numbers. -/
def Lt5 (x a b c d y e f g h : Int) : Prop := x < y ∨ (x = y ∧ Lt a b c d e f g h)
theorem tri5 (x a b c d k y e f g h l : Int) : (ordP (x, a, b, c, d, k) (y, e, f, g, h, l) = -1 ∧ Lt5 x a b c d y e f g h) ∨ (ordP (x, a, b, c, d, k) (y, e, f, g, h, l) = 0 ∧ x = y ∧ a = e ∧ b = f ∧ c = g ∧ d = h) ∨ (ordP (x, a, b, c, d, k) (y, e, f, g, h, l) = 1 ∧ Lt5 y e f g h x a b c d) := by
  show ((if x < y then (-1 : Int) else if y < x then 1 else Sm.cmp a b c d e f g h) = -1 ∧ _) ∨ ((if x < y then (-1 : Int) else if y < x then 1 else Sm.cmp a b c d e f g h) = 0 ∧ _) ∨ ((if x < y then (-1 : Int) else if y < x then 1 else Sm.cmp a b c d e f g h) = 1 ∧ _)
  unfold Lt5
  by_cases h1 : x < y
  · rw [if_pos h1]; exact .inl ⟨rfl, .inl h1⟩
  by_cases h2 : y < x
  · rw [if_neg h1, if_pos h2]; exact .inr (.inr ⟨rfl, .inl h2⟩)
  rw [if_neg h1, if_neg h2]
  obtain rfl : x = y := by omega
  rcases cmp_cases a b c d e f g h with ⟨e1, h1⟩ | ⟨e1, rfl, rfl, rfl, rfl⟩ | ⟨e1, h1⟩
  · exact .inl ⟨e1, .inr ⟨rfl, h1⟩⟩
  · exact .inr (.inl ⟨e1, rfl, rfl, rfl, rfl, rfl⟩)
  · exact .inr (.inr ⟨e1, .inr ⟨rfl, h1⟩⟩)

/-- What an order is. -/
structure Od (o : R6 → R6 → Int) : Prop where
  vals : ∀ x y, o x y = -1 ∨ o x y = 0 ∨ o x y = 1
  neg : ∀ x y, o y x = - o x y
  trans : ∀ x y z, o x y < 0 → o y z < 0 → o x z < 0
  eql : ∀ x y z, o x y = 0 → o x z = o y z
theorem odC : Od ordC := by
  refine ⟨?_, ?_, ?_, ?_⟩
  · rintro ⟨a, b, c, d, e, f⟩ ⟨p, q, r, s, t, u⟩
    show Sm.cmp a b c d p q r s = -1 ∨ Sm.cmp a b c d p q r s = 0 ∨ Sm.cmp a b c d p q r s = 1
    rcases cmp_cases a b c d p q r s with ⟨h, _⟩ | ⟨h, _⟩ | ⟨h, _⟩ <;> rw [h] <;> decide
  · rintro ⟨a, b, c, d, e, f⟩ ⟨p, q, r, s, t, u⟩
    show Sm.cmp p q r s a b c d = - Sm.cmp a b c d p q r s
    rcases cmp_cases a b c d p q r s with ⟨h, k⟩ | ⟨h, k⟩ | ⟨h, k⟩ <;> rcases cmp_cases p q r s a b c d with ⟨h', k'⟩ | ⟨h', k'⟩ | ⟨h', k'⟩ <;> rw [h, h'] <;> (try unfold Lt at *) <;> omega
  · rintro ⟨a, b, c, d, e, f⟩ ⟨p, q, r, s, t, u⟩ ⟨i, j, k, l, m, n⟩ h1 h2
    replace h1 : Sm.cmp a b c d p q r s < 0 := h1
    replace h2 : Sm.cmp p q r s i j k l < 0 := h2
    show Sm.cmp a b c d i j k l < 0
    rcases cmp_cases a b c d p q r s with ⟨e1, k1⟩ | ⟨e1, k1⟩ | ⟨e1, k1⟩ <;> rcases cmp_cases p q r s i j k l with ⟨e2, k2⟩ | ⟨e2, k2⟩ | ⟨e2, k2⟩ <;> rcases cmp_cases a b c d i j k l with ⟨e3, k3⟩ | ⟨e3, k3⟩ | ⟨e3, k3⟩ <;> rw [e1] at h1 <;> rw [e2] at h2 <;> rw [e3] <;> (try unfold Lt at *) <;> omega
  · rintro ⟨a, b, c, d, e, f⟩ ⟨p, q, r, s, t, u⟩ ⟨i, j, k, l, m, n⟩ h1
    replace h1 : Sm.cmp a b c d p q r s = 0 := h1
    show Sm.cmp a b c d i j k l = Sm.cmp p q r s i j k l
    rcases cmp_cases a b c d p q r s with ⟨e1, k1⟩ | ⟨e1, rfl, rfl, rfl, rfl⟩ | ⟨e1, k1⟩
    · rw [e1] at h1; omega
    · rfl
    · rw [e1] at h1; omega
theorem odP : Od ordP := by
  refine ⟨?_, ?_, ?_, ?_⟩
  · rintro ⟨a, b, c, d, e, f⟩ ⟨p, q, r, s, t, u⟩
    rcases tri5 a b c d e f p q r s t u with ⟨h, _⟩ | ⟨h, _⟩ | ⟨h, _⟩ <;> rw [h] <;> decide
  · rintro ⟨a, b, c, d, e, f⟩ ⟨p, q, r, s, t, u⟩
    rcases tri5 a b c d e f p q r s t u with ⟨h, k⟩ | ⟨h, k⟩ | ⟨h, k⟩ <;> rcases tri5 p q r s t u a b c d e f with ⟨h', k'⟩ | ⟨h', k'⟩ | ⟨h', k'⟩ <;> rw [h, h'] <;> (try unfold Lt5 Lt at *) <;> omega
  · rintro ⟨a, b, c, d, e, f⟩ ⟨p, q, r, s, t, u⟩ ⟨i, j, k, l, m, n⟩ h1 h2
    rcases tri5 a b c d e f p q r s t u with ⟨e1, k1⟩ | ⟨e1, k1⟩ | ⟨e1, k1⟩ <;> rcases tri5 p q r s t u i j k l m n with ⟨e2, k2⟩ | ⟨e2, k2⟩ | ⟨e2, k2⟩ <;> rcases tri5 a b c d e f i j k l m n with ⟨e3, k3⟩ | ⟨e3, k3⟩ | ⟨e3, k3⟩ <;> rw [e1] at h1 <;> rw [e2] at h2 <;> rw [e3] <;> (try unfold Lt5 Lt at *) <;> omega
  · rintro ⟨a, b, c, d, e, f⟩ ⟨p, q, r, s, t, u⟩ ⟨i, j, k, l, m, n⟩ h1
    rcases tri5 a b c d e f p q r s t u with ⟨e1, k1⟩ | ⟨e1, rfl, rfl, rfl, rfl, rfl⟩ | ⟨e1, k1⟩
    · rw [e1] at h1; omega
    · rfl
    · rw [e1] at h1; omega
theorem Od.self {o : R6 → R6 → Int} (O : Od o) (x : R6) : o x x = 0 := by have := O.neg x x; omega
theorem Od.sym {o : R6 → R6 → Int} (O : Od o) {x y : R6} (h : o x y = 0) : o y x = 0 := by have := O.neg x y; omega
theorem Od.eql2 {o : R6 → R6 → Int} (O : Od o) {x y : R6} (z : R6) (h : o x y = 0) : o z x = o z y := by
  have := O.eql x y z h
  have h1 := O.neg x z
  have h2 := O.neg y z
  omega
theorem same_c {a b c d e f p q r s t u : Int} (h : ordC (a, b, c, d, e, f) (p, q, r, s, t, u) = 0) : a = p ∧ b = q ∧ c = r ∧ d = s := by
  replace h : Sm.cmp a b c d p q r s = 0 := h
  rcases cmp_cases a b c d p q r s with ⟨h', _⟩ | ⟨h', k⟩ | ⟨h', _⟩
  · omega
  · exact k
  · omega
theorem same_p {a b c d e f p q r s t u : Int} (h : ordP (a, b, c, d, e, f) (p, q, r, s, t, u) = 0) : a = p ∧ b = q ∧ c = r ∧ d = s ∧ e = t := by
  rcases tri5 a b c d e f p q r s t u with ⟨h', _⟩ | ⟨h', k⟩ | ⟨h', _⟩
  · omega
  · exact k
  · omega

/-- In order. -/
def Srt (o : R6 → R6 → Int) (l : List R6) : Prop := l.Pairwise (fun x y => o x y < 0)
/-- How many of a list come before x, at its head. -/
def pos (o : R6 → R6 → Int) : List R6 → R6 → Nat
  | [], _ => 0
  | y :: l, x => if o y x < 0 then pos o l x + 1 else 0
/-- The one that stands where x is, or would be, if it is x's. -/
def get (o : R6 → R6 → Int) : List R6 → R6 → Option R6
  | [], _ => none
  | y :: l, x => if o y x < 0 then get o l x else if o y x = 0 then some y else none
/-- A list with x in its place, or with nothing there. -/
def put (o : R6 → R6 → Int) : List R6 → R6 → Bool → List R6
  | [], x, s => if s then [x] else []
  | y :: l, x, s => if o y x < 0 then y :: put o l x s else if o y x = 0 then (if s then x :: l else l) else (if s then x :: y :: l else y :: l)
def inB (o : R6 → R6 → Int) (l : List R6) (x : R6) : Bool := (get o l x).isSome
theorem pos_le (o : R6 → R6 → Int) : ∀ (l : List R6) (x : R6), pos o l x ≤ l.length
  | [], x => Nat.le_refl _
  | y :: l, x => by
    unfold pos
    split
    · have := pos_le o l x; simp; omega
    · exact Nat.zero_le _
theorem get_at (o : R6 → R6 → Int) : ∀ (l : List R6) (x : R6), get o l x = match l[pos o l x]? with
    | some r => if o r x = 0 then some r else none
    | none => none
  | [], x => rfl
  | y :: l, x => by
    unfold get pos
    by_cases h : o y x < 0
    · rw [if_pos h, if_pos h, get_at o l x]; rfl
    · rw [if_neg h, if_neg h]; rfl
theorem put_at (o : R6 → R6 → Int) : ∀ (l : List R6) (x : R6) (s : Bool), put o l x s = l.take (pos o l x) ++ ((if s then [x] else []) ++ l.drop (pos o l x + (if inB o l x then 1 else 0)))
  | [], x, s => by cases s <;> rfl
  | y :: l, x, s => by
    unfold put inB get pos
    by_cases h : o y x < 0
    · rw [if_pos h, if_pos h, if_pos h, put_at o l x s]
      show _ = y :: _
      unfold inB
      congr 2
      rw [Nat.add_right_comm]
      rfl
    · rw [if_neg h, if_neg h, if_neg h]
      by_cases h0 : o y x = 0
      · rw [if_pos h0, if_pos h0]; cases s <;> rfl
      · rw [if_neg h0, if_neg h0]; cases s <;> rfl
/-- In a list in order, all ahead of that place come before x, and no others. -/
theorem pos_lt {o : R6 → R6 → Int} (O : Od o) : ∀ (l : List R6) (x : R6), Srt o l → ∀ (i : Nat) (r : R6), l[i]? = some r → (o r x < 0 ↔ i < pos o l x)
  | [], x, _, i, r, h => by simp at h
  | y :: l, x, hs, i, r, h => by
    obtain ⟨h1, h2⟩ := List.pairwise_cons.1 hs
    unfold pos
    by_cases hy : o y x < 0
    · rw [if_pos hy]
      cases i with
      | zero => simp at h; subst h; simp [hy]
      | succ i => rw [pos_lt O l x h2 i r (by simpa using h)]; omega
    · rw [if_neg hy]
      refine ⟨fun hr => ?_, fun hh => absurd hh (by omega)⟩
      cases i with
      | zero => simp at h; subst h; exact absurd hr hy
      | succ i => exact absurd (O.trans y r x (h1 r (List.mem_of_getElem? (by simpa using h))) hr) hy
theorem get_key {o : R6 → R6 → Int} : ∀ {l : List R6} {x r : R6}, get o l x = some r → o r x = 0 ∧ r ∈ l
  | [], x, r, h => by cases h
  | y :: l, x, r, h => by
    unfold get at h
    by_cases h1 : o y x < 0
    · rw [if_pos h1] at h
      have := get_key h
      exact ⟨this.1, List.mem_cons_of_mem _ this.2⟩
    · rw [if_neg h1] at h
      by_cases h2 : o y x = 0
      · rw [if_pos h2] at h; injection h with h; subst h; exact ⟨h2, List.mem_cons_self ..⟩
      · rw [if_neg h2] at h; cases h
theorem get_mem {o : R6 → R6 → Int} (O : Od o) : ∀ {l : List R6} {x r : R6}, Srt o l → r ∈ l → o r x = 0 → get o l x = some r
  | [], x, r, _, h, _ => by cases h
  | y :: l, x, r, hs, h, h0 => by
    obtain ⟨h1, h2⟩ := List.pairwise_cons.1 hs
    unfold get
    rcases List.mem_cons.1 h with rfl | h
    · rw [if_neg (by omega), if_pos h0]
    · have hy : o y x < 0 := by have := h1 r h; have := O.eql2 y h0; omega
      rw [if_pos hy]
      exact get_mem O h2 h h0
/-- Sums: what is put comes in, what stood there goes out. -/
theorem put_sum (o : R6 → R6 → Int) (g : R6 → Int) : ∀ (l : List R6) (x : R6) (s : Bool), ((put o l x s).map g).sum = (l.map g).sum - ((get o l x).map g).getD 0 + (if s then g x else 0)
  | [], x, s => by cases s <;> simp [put, get]
  | y :: l, x, s => by
    unfold put get
    by_cases h : o y x < 0
    · rw [if_pos h, if_pos h, List.map_cons, List.sum_cons, put_sum o g l x s, List.map_cons, List.sum_cons]; omega
    · rw [if_neg h, if_neg h]
      by_cases h0 : o y x = 0
      · rw [if_pos h0, if_pos h0]; cases s <;> simp <;> omega
      · rw [if_neg h0, if_neg h0]; cases s <;> simp <;> omega
theorem put_mem {o : R6 → R6 → Int} : ∀ {l : List R6} {x : R6} {s : Bool} {r : R6}, r ∈ put o l x s → (r = x ∧ s = true) ∨ r ∈ l
  | [], x, s, r, h => by cases s <;> simp [put] at h; exact .inl ⟨h, rfl⟩
  | y :: l, x, s, r, h => by
    unfold put at h
    by_cases h1 : o y x < 0
    · rw [if_pos h1] at h
      rcases List.mem_cons.1 h with rfl | h
      · exact .inr (List.mem_cons_self ..)
      · rcases put_mem h with h | h
        · exact .inl h
        · exact .inr (List.mem_cons_of_mem _ h)
    · rw [if_neg h1] at h
      by_cases h0 : o y x = 0
      · rw [if_pos h0] at h
        cases s
        · exact .inr (List.mem_cons_of_mem _ h)
        · rcases List.mem_cons.1 h with rfl | h
          · exact .inl ⟨rfl, rfl⟩
          · exact .inr (List.mem_cons_of_mem _ h)
      · rw [if_neg h0] at h
        cases s
        · exact .inr h
        · rcases List.mem_cons.1 h with rfl | h
          · exact .inl ⟨rfl, rfl⟩
          · exact .inr h
theorem put_srt {o : R6 → R6 → Int} (O : Od o) : ∀ {l : List R6} {x : R6} {s : Bool}, Srt o l → Srt o (put o l x s)
  | [], x, s, _ => by cases s <;> simp [put, Srt]
  | y :: l, x, s, hs => by
    obtain ⟨h1, h2⟩ := List.pairwise_cons.1 hs
    unfold put
    by_cases hy : o y x < 0
    · rw [if_pos hy]
      refine List.pairwise_cons.2 ⟨fun r hr => ?_, put_srt O h2⟩
      rcases put_mem hr with ⟨rfl, _⟩ | hr
      · exact hy
      · exact h1 r hr
    · rw [if_neg hy]
      by_cases h0 : o y x = 0
      · rw [if_pos h0]
        cases s
        · exact h2
        · refine List.pairwise_cons.2 ⟨fun r hr => ?_, h2⟩
          rw [← O.eql y x r h0]
          exact h1 r hr
      · rw [if_neg h0]
        cases s
        · exact hs
        · have hxy : o x y < 0 := by have := O.neg x y; rcases O.vals y x with h | h | h <;> omega
          refine List.pairwise_cons.2 ⟨fun r hr => ?_, hs⟩
          rcases List.mem_cons.1 hr with rfl | hr
          · exact hxy
          · exact O.trans x y r hxy (h1 r hr)
theorem get_cons (o : R6 → R6 → Int) (y : R6) (l : List R6) (z : R6) : get o (y :: l) z = if o y z < 0 then get o l z else if o y z = 0 then some y else none := rfl
theorem get_put {o : R6 → R6 → Int} (O : Od o) : ∀ (l : List R6) (x z : R6) (s : Bool), Srt o l → get o (put o l x s) z = if o x z = 0 then (if s then some x else none) else get o l z := by
  intro l x z s hs
  have hs' := put_srt O hs (x := x) (s := s)
  by_cases h0 : o x z = 0
  · rw [if_pos h0]
    cases s
    · cases hg : get o (put o l x false) z with
      | none => rfl
      | some r =>
        exfalso
        obtain ⟨k0, km⟩ := get_key hg
        have hrx : o r x = 0 := by rw [O.eql2 r h0]; exact k0
        clear hg hs'
        induction l with
        | nil => simp [put] at km
        | cons y l ih =>
          obtain ⟨h1, h2⟩ := List.pairwise_cons.1 hs
          unfold put at km
          by_cases hy : o y x < 0
          · rw [if_pos hy] at km
            rcases List.mem_cons.1 km with rfl | km
            · omega
            · exact ih h2 km
          · rw [if_neg hy] at km
            by_cases hy0 : o y x = 0
            · rw [if_pos hy0] at km
              have := h1 r km
              have := O.eql2 y hrx
              omega
            · rw [if_neg hy0] at km
              rcases List.mem_cons.1 km with rfl | km
              · exact hy0 hrx
              · have := h1 r km
                have := O.eql2 y hrx
                omega
    · refine get_mem O hs' ?_ h0
      clear hs'
      induction l with
      | nil => simp [put]
      | cons y l ih =>
        obtain ⟨h1, h2⟩ := List.pairwise_cons.1 hs
        unfold put
        by_cases hy : o y x < 0
        · rw [if_pos hy]; exact List.mem_cons_of_mem _ (ih h2)
        · rw [if_neg hy]
          by_cases hy0 : o y x = 0
          · rw [if_pos hy0]; exact List.mem_cons_self ..
          · rw [if_neg hy0]; exact List.mem_cons_self ..
  · rw [if_neg h0]
    clear hs'
    induction l with
    | nil =>
      cases s
      · rfl
      · show (if o x z < 0 then none else if o x z = 0 then some x else none) = none
        rw [if_neg h0]; split <;> rfl
    | cons y l ih =>
      obtain ⟨h1, h2⟩ := List.pairwise_cons.1 hs
      unfold put
      by_cases hy : o y x < 0
      · rw [if_pos hy, get_cons, get_cons, ih h2]
      · rw [if_neg hy]
        by_cases hy0 : o y x = 0
        · rw [if_pos hy0]
          have e := O.eql y x z hy0
          cases s
          · show get o l z = get o (y :: l) z
            rw [get_cons o y]
            by_cases hz : o y z < 0
            · rw [if_pos hz]
            · rw [if_neg hz, if_neg (by omega)]
              cases l with
              | nil => rfl
              | cons u l =>
                have hu := h1 u (List.mem_cons_self ..)
                have hzy : o z y < 0 := by have := O.neg y z; rcases O.vals y z with h | h | h <;> omega
                have hzu := O.trans z y u hzy hu
                have := O.neg z u
                rw [get_cons, if_neg (by omega), if_neg (by omega)]
          · show get o (x :: l) z = get o (y :: l) z
            rw [get_cons, get_cons, e]
            by_cases hz : o x z < 0
            · rw [if_pos hz, if_pos hz]
            · rw [if_neg hz, if_neg hz, if_neg h0, if_neg h0]
        · rw [if_neg hy0]
          cases s
          · rfl
          · show (if o x z < 0 then get o (y :: l) z else if o x z = 0 then some x else none) = _
            by_cases hz : o x z < 0
            · rw [if_pos hz]
            · rw [if_neg hz, if_neg h0]
              have hxy : o x y < 0 := by have := O.neg x y; rcases O.vals y x with h | h | h <;> omega
              have hzx : o z x < 0 := by have := O.neg x z; rcases O.vals x z with h | h | h <;> omega
              have hzy := O.trans z x y hzx hxy
              have := O.neg z y
              rw [get_cons, if_neg (by omega), if_neg (by omega)]
end Ho
end Go.Proofs.YtneajcoiemkfbaaGreat
end

section
/-
  Rows of six cells in memory: a slice that reads as classes, or positions. No condition.
-/
namespace Go.Proofs.YtneajcoiemkfbaaGreat
open Go.RowKit Go.Shelf
set_option linter.unusedVariables false
namespace Ho
open Kk Pm

def cC : R6 → List Value
  | (a, b, c, d, e, f) => [.int .i64 a, .int .i64 b, .int .i64 c, .int .i64 d, .int .u64 e, .int .u64 f]
def cP : R6 → List Value
  | (a, b, c, d, e, f) => [.int .i64 a, .int .i64 b, .int .i64 c, .int .i64 d, .int .i64 e, .int .u64 f]
/-- Cells of rows. -/
structure C6 (k : R6 → List Value) : Prop where
  len : ∀ r, (k r).length = 6
  one : ∀ r, ∀ u ∈ k r, u.oneCell' = true
theorem c6C : C6 cC := by
  refine ⟨?_, ?_⟩
  · rintro ⟨a, b, c, d, e, f⟩; rfl
  · rintro ⟨a, b, c, d, e, f⟩ u hu
    simp only [cC, List.mem_cons, List.not_mem_nil, or_false] at hu
    rcases hu with rfl | rfl | rfl | rfl | rfl | rfl <;> rfl
theorem c6P : C6 cP := by
  refine ⟨?_, ?_⟩
  · rintro ⟨a, b, c, d, e, f⟩; rfl
  · rintro ⟨a, b, c, d, e, f⟩ u hu
    simp only [cP, List.mem_cons, List.not_mem_nil, or_false] at hu
    rcases hu with rfl | rfl | rfl | rfl | rfl | rfl <;> rfl
def flat (k : R6 → List Value) (l : List R6) : List Value := l.flatMap k
theorem flat_len {k : R6 → List Value} (K : C6 k) : ∀ l, (flat k l).length = l.length * 6
  | [] => rfl
  | r :: l => by
    show (k r ++ flat k l).length = _
    rw [List.length_append, K.len, flat_len K l, List.length_cons]; omega
theorem flat_one {k : R6 → List Value} (K : C6 k) : ∀ l, ∀ u ∈ flat k l, u.oneCell' = true := fun l u hu => by
  obtain ⟨r, _, h⟩ := List.mem_flatMap.1 hu
  exact K.one r u h
theorem flat_app (k : R6 → List Value) (a b : List R6) : flat k (a ++ b) = flat k a ++ flat k b := by simp [flat]
theorem flat_at {k : R6 → List Value} (K : C6 k) : ∀ (l : List R6) (i : Nat) (r : R6), l[i]? = some r → ∀ j v, (k r)[j]? = some v → (flat k l)[i * 6 + j]? = some v
  | [], i, r, h, j, v, _ => by simp at h
  | y :: l, 0, r, h, j, v, hv => by
    simp at h; subst h
    have hj : j < 6 := by rw [← K.len y]; exact (List.getElem?_eq_some_iff.1 hv).1
    show (k y ++ flat k l)[0 * 6 + j]? = _
    rw [Nat.zero_mul, Nat.zero_add, List.getElem?_append_left (by rw [K.len]; exact hj)]
    exact hv
  | y :: l, i + 1, r, h, j, v, hv => by
    show (k y ++ flat k l)[(i + 1) * 6 + j]? = _
    rw [List.getElem?_append_right (by rw [K.len]; omega), K.len, show (i + 1) * 6 + j - 6 = i * 6 + j by omega]
    exact flat_at K l i r (by simpa using h) j v hv
theorem flat_take {k : R6 → List Value} (K : C6 k) (l : List R6) (i : Nat) : (flat k l).take (i * 6) = flat k (l.take i) := by
  rcases Nat.lt_or_ge i l.length with h | h
  · have e : l = l.take i ++ l.drop i := (List.take_append_drop i l).symm
    conv => lhs; rw [e]
    rw [flat_app, List.take_left' (by rw [flat_len K, List.length_take]; omega)]
  · rw [List.take_of_length_le (by rw [flat_len K]; omega), List.take_of_length_le h]
theorem flat_drop {k : R6 → List Value} (K : C6 k) (l : List R6) (i : Nat) : (flat k l).drop (i * 6) = flat k (l.drop i) := by
  rcases Nat.lt_or_ge i l.length with h | h
  · have e : l = l.take i ++ l.drop i := (List.take_append_drop i l).symm
    conv => lhs; rw [e]
    rw [flat_app, List.drop_left' (by rw [flat_len K, List.length_take]; omega)]
  · rw [List.drop_eq_nil_of_le (by rw [flat_len K]; omega), List.drop_eq_nil_of_le h]; rfl

/-- A slice that reads as rows. -/
structure RS (k : R6 → List Value) (w : World) (A : Option Addr) (n c : Nat) (l : List R6) : Prop where
  len : l.length = n
  cap : n ≤ c
  nil : A = none → c = 0
  row : 0 < n → ∃ b o, A = some ⟨b, o, none⟩ ∧ b < w.heap.size ∧ ∀ i r, l[i]? = some r → w.rangeAt b (o + i * 6) (k r)
section
variable {k : R6 → List Value} {w w' : World} {A : Option Addr} {n c : Nat} {l : List R6}
theorem RS.bel (h : RS k w A n c l) (hb : Bel w w') : RS k w' A n c l :=
  ⟨h.len, h.cap, h.nil, fun hn => by
    obtain ⟨b, o, e, hlt, hc⟩ := h.row hn
    exact ⟨b, o, e, Nat.lt_of_lt_of_le hlt (Below.size hb), fun i r hi => rng_bel (hc i r hi) hb⟩⟩
theorem RS.kep {S : Nat → Prop} (h : RS k w A n c l) (hb : Kep S w w') (hs : ∀ x, A = some x → ¬ S x.block) : RS k w' A n c l :=
  ⟨h.len, h.cap, h.nil, fun hn => by
    obtain ⟨b, o, e, hlt, hc⟩ := h.row hn
    exact ⟨b, o, e, Nat.lt_of_lt_of_le hlt hb.size, fun i r hi => rng_kep (hc i r hi) hb (hs _ e)⟩⟩
theorem RS.nil_ : RS k w none 0 0 [] := ⟨rfl, Nat.le_refl _, fun _ => rfl, fun h => absurd h (by omega)⟩
theorem RS.part (h : RS k w A n c l) {m : Nat} (hm : m ≤ n) : RS k w A m c (l.take m) :=
  ⟨by rw [List.length_take, h.len]; omega, Nat.le_trans hm h.cap, h.nil, fun h0 => by
    obtain ⟨b, o, e, hlt, hc⟩ := h.row (by omega)
    refine ⟨b, o, e, hlt, fun i r hi => hc i r ?_⟩
    rw [List.getElem?_take] at hi
    split at hi
    · exact hi
    · cases hi⟩
theorem RS.get (h : RS k w A n c l) {i : Nat} (hi : i < n) : ∃ r, l[i]? = some r := by
  have : i < l.length := by rw [h.len]; exact hi
  exact ⟨l[i], List.getElem?_eq_getElem this⟩
/-- The cells of the row i. -/
theorem RS.at (h : RS k w A n c l) {i : Nat} (hi : i < n) {r : R6} (hr : l[i]? = some r) : ∃ b o, A = some ⟨b, o, none⟩ ∧ b < w.heap.size ∧ w.rangeAt b (o + i * 6) (k r) := by
  obtain ⟨b, o, e, hlt, hc⟩ := h.row (by omega)
  exact ⟨b, o, e, hlt, hc i r hr⟩
end
theorem rs_blk {k : R6 → List Value} (K : C6 k) {w : World} {g : Nat} {cur : Array Value} {t : TypeId} {l : List R6} {n c : Nat} (hb : Blk w g cur t) (hl : l.length = n) (hnc : n ≤ c) (ht : cur.toList.take (n * 6) = flat k l) : RS k w (some ⟨g, 0, none⟩) n c l :=
  ⟨hl, hnc, (fun h => by cases h), fun hn => ⟨g, 0, rfl, hb.lt, fun i r hi j v hv => by
    have h1 := flat_at K l i r hi j v hv
    rw [← ht, List.getElem?_take] at h1
    rw [Nat.zero_add]
    split at h1
    · exact hb.cell _ (by simpa using h1)
    · cases h1⟩⟩
theorem rs_own {k : R6 → List Value} (K : C6 k) {w : World} {base n : Nat} {e : TypeId} {v : Value} {l : List R6} (h : w.ownsRow base e 6 v n (flat k l)) : ∃ A c, v = .slice A n c ∧ RS k w A n c l ∧ c ≤ maxLen ∧ ∀ x, A = some x → base ≤ x.block := by
  have hl : l.length = n := by have := h.1; rw [flat_len K] at this; omega
  rcases h.2 with ⟨rfl, rfl⟩ | ⟨g, cap, cur, rfl, hbg, hg, hnc, hm, hcs, ht⟩
  · have : l = [] := List.length_eq_zero_iff.1 hl
    subst this
    exact ⟨none, 0, rfl, RS.nil_, by unfold maxLen; omega, fun x h => by cases h⟩
  · exact ⟨_, _, rfl, rs_blk K hg hl hnc ht, hm, fun x h => by injection h with h; subst h; exact hbg⟩

/-- A load of a row, whether it is guarded or not. -/
theorem wpList_load_g {ops : Array Oper} {rest : List Oper} {o : Oper} {a : Act} {w : World} {Q : Exit → Act → World → Prop} (hw : Region.wanted o (yielded ops a.tmps) = true) (ty : TypeId) (x : Operand) (ho : o.op = .load ty x)
    (b q : Nat) (hx : a.eval x = .pointer (some ⟨b, q, none⟩)) (cs : List Value) (d : TypeDesc) (hc : w.rangeAt b q cs)
    (hu : Tryz.prog.underlying ty = some d) (hd : d.isRow = true) (hi : (Tryz.prog.info? ty).map (·.size) = some cs.length)
    (h : wpList Tryz.prog ops Q rest (a.put o.dst (.agg cs.toArray)) w) : wpList Tryz.prog ops Q (o :: rest) a w :=
  wpList_step fun K hK => by
    rw [if_pos hw]
    exact wp_load_mid ty x ho b q hx cs d hc hu hd hi (hK _ _ h)
theorem info_c : (Tryz.prog.info? 90).map (·.size) = some 6 := by kernel_rfl
theorem info_p : (Tryz.prog.info? 93).map (·.size) = some 6 := by kernel_rfl
theorem info_s : (Tryz.prog.info? 37).map (·.size) = some 4 := by kernel_rfl
theorem info_q : (Tryz.prog.info? 46).map (·.size) = some 2 := by kernel_rfl
theorem info_h : (Tryz.prog.info? 25).map (·.size) = some 2 := by kernel_rfl
theorem zero_c : (Tryz.prog.info? 90).map (fun i => (i.zero, i.size, i.bytes)) = some (some (.agg (cC (0, 0, 0, 0, 0, 0)).toArray), 6, 48) := by kernel_rfl
theorem zero_p : (Tryz.prog.info? 93).map (fun i => (i.zero, i.size, i.bytes)) = some (some (.agg (cP (0, 0, 0, 0, 0, 0)).toArray), 6, 48) := by kernel_rfl
end Ho
end Go.Proofs.YtneajcoiemkfbaaGreat
end

section
/-
  What holding's orders answer: cmp.Compare, cmp.Or, byStamp, byOwner. No condition.
-/
namespace Go.Proofs.YtneajcoiemkfbaaGreat
open Go.RowKit Go.Shelf
set_option linter.unusedVariables false
namespace Ho
open Kk Pm

theorem isNaN (x : Int) (w : World) : Calls Tryz.prog 209 #[.int .i64 x] w fun e w' => e = .returned (.bool false) ∧ w = w' := by
  go_enter Tryz.func209, Tryz.ntmps209
  go_wp2
  go_ret
  exact ⟨by simp, rfl⟩
def cmpI (x y : Int) : Int := if x < y then -1 else if y < x then 1 else 0
theorem compareI (x y : Int) (w : World) : Calls Tryz.prog 184 #[.int .i64 x, .int .i64 y] w fun e w' => e = .returned (.int .i64 (cmpI x y)) ∧ w = w' := by
  have HC := Lib.hid (show cmpI x y = if x < y then -1 else if y < x then 1 else 0 from rfl)
  obtain ⟨z, hz⟩ : ∃ z, cmpI x y = z := ⟨_, rfl⟩
  rw [hz] at HC ⊢
  clear hz
  go_enter Tryz.func184, Tryz.ntmps184
  go_wp2_with fail
  refine (isNaN _ _).mono ?_
  rintro e w1 ⟨rfl, rfl⟩
  go_wp2_with fail
  refine (isNaN _ _).mono ?_
  rintro e w1 ⟨rfl, rfl⟩
  by_cases h1 : x < y
  · obtain rfl : z = -1 := by rw [HC.out, if_pos h1]
    go_wp2_with fail
    go_ret
    exact ⟨rfl, rfl⟩
  · by_cases h2 : y < x
    · obtain rfl : z = 1 := by rw [HC.out, if_neg h1, if_pos h2]
      go_wp2_with fail
      go_ret
      exact ⟨rfl, rfl⟩
    · obtain rfl : z = 0 := by rw [HC.out, if_neg h1, if_neg h2]
      go_wp2_with fail
      go_ret
      exact ⟨rfl, rfl⟩
def orI (x y : Int) : Int := if x ≠ 0 then x else y
theorem or2 (g : Nat) (x y : Int) (w : World) (h0 : w.cell? ⟨g, 0, none⟩ = some (.int .i64 x)) (h1 : w.cell? ⟨g, 1, none⟩ = some (.int .i64 y)) :
    Calls Tryz.prog 183 #[.slice (some ⟨g, 0, none⟩) 2 2] w fun e w' => e = .returned (.int .i64 (orI x y)) ∧ w = w' := by
  have HC := Lib.hid (show orI x y = if x ≠ 0 then x else y from rfl)
  obtain ⟨z, hz⟩ : ∃ z, orI x y = z := ⟨_, rfl⟩
  rw [hz] at HC ⊢
  clear hz
  go_enter Tryz.func183, Tryz.ntmps183
  go_wp2_with fail
  go_loopw [8] (fun s8 wr => ∃ k : Nat, k ≤ 2 ∧ s8 = .int .i64 k ∧ w = wr ∧ Hid ((0 < k → x = 0) ∧ (1 < k → y = 0))) (fun s8 _ => 2 - (intOf s8).toNat)
  case atStart => exact ⟨0, by omega, rfl, rfl, Lib.hid ⟨fun h => absurd h (by omega), fun h => absurd h (by omega)⟩⟩
  case round =>
    obtain ⟨k, hk, rfl, rfl, hh⟩ := hrel
    by_cases hlt : k < 2
    · by_cases hk0 : k = 0
      · subst hk0
        by_cases hx : x = 0
        · subst hx
          go_wp2_with fail
          go_roundw
          case rel => refine ⟨1, by omega, ?_, ?_, ?_⟩ <;> first | trivial | rfl | exact Lib.hid ⟨fun _ => (by first | rfl | trivial), fun h => absurd h (by omega)⟩
          case measure => simp [intOf]
        · obtain rfl : z = x := by rw [HC.out, if_pos hx]
          have hx' : (z != 0) = true := by rw [bne_iff_ne]; exact hx
          clear hx
          go_wp2_with fail
          go_ret
          exact ⟨rfl, rfl⟩
      · obtain rfl : k = 1 := by omega
        obtain rfl : x = 0 := hh.out.1 (by omega)
        obtain rfl : z = y := by rw [HC.out, if_neg (by decide)]
        by_cases hx : z = 0
        · subst hx
          go_wp2_with fail
          go_roundw
          case rel => refine ⟨2, by omega, ?_, ?_, ?_⟩ <;> first | trivial | rfl | exact Lib.hid ⟨fun _ => (by first | rfl | trivial), fun _ => (by first | rfl | trivial)⟩
          case measure => simp [intOf]
        · have hx' : (z != 0) = true := by rw [bne_iff_ne]; exact hx
          clear hx
          go_wp2_with fail
          go_ret
          exact ⟨rfl, rfl⟩
    · obtain rfl : k = 2 := by omega
      obtain rfl : x = 0 := hh.out.1 (by omega)
      obtain rfl : y = 0 := hh.out.2 (by omega)
      obtain rfl : z = 0 := by rw [HC.out, if_neg (by decide)]
      go_wp2_with fail
      go_ret
      exact ⟨rfl, rfl⟩

theorem rng6 {w : World} {b q : Nat} {u0 u1 u2 u3 u4 u5 : Value} (h : w.rangeAt b q [u0, u1, u2, u3, u4, u5]) :
    w.cell? ⟨b, q, none⟩ = some u0 ∧ w.cell? ⟨b, q + 1, none⟩ = some u1 ∧ w.cell? ⟨b, q + 2, none⟩ = some u2 ∧ w.cell? ⟨b, q + 3, none⟩ = some u3 ∧ w.cell? ⟨b, q + 4, none⟩ = some u4 ∧ w.cell? ⟨b, q + 5, none⟩ = some u5 :=
  ⟨h 0 u0 rfl, h 1 u1 rfl, h 2 u2 rfl, h 3 u3 rfl, h 4 u4 rfl, h 5 u5 rfl⟩
set_option maxHeartbeats 1000000 in
theorem byStamp (a b c d e f p q r s t u : Int) (w : World) : Calls Tryz.prog 130 #[.agg (cC (a, b, c, d, e, f)).toArray, .agg (cC (p, q, r, s, t, u)).toArray] w fun x w' => x = .returned (.int .i64 (ordC (a, b, c, d, e, f) (p, q, r, s, t, u))) ∧ Bel w w' := by
  show Calls Tryz.prog 130 #[.agg #[.int .i64 a, .int .i64 b, .int .i64 c, .int .i64 d, .int .u64 e, .int .u64 f], .agg #[.int .i64 p, .int .i64 q, .int .i64 r, .int .i64 s, .int .u64 t, .int .u64 u]] w fun x w' => x = .returned (.int .i64 (Sm.cmp a b c d p q r s)) ∧ Bel w w'
  have CM := Lib.hid (fun W => Sm.compare a b c d p q r s W)
  have B0 := Lib.hid (((Bel.refl w).alloc (.cells #[.int .i64 a, .int .i64 b, .int .i64 c, .int .i64 d, .int .u64 e, .int .u64 f] 90)).alloc (.cells #[.int .i64 p, .int .i64 q, .int .i64 r, .int .i64 s, .int .u64 t, .int .u64 u] 90))
  go_enter Tryz.func130, Tryz.ntmps130
  go_wp2_with fail
  refine (CM.out _).mono ?_
  rintro x w1 ⟨rfl, kb⟩
  have K1 := Lib.hid (B0.out.trans kb)
  clear kb B0 CM
  go_wp2_with fail
  go_ret
  exact ⟨rfl, K1.out⟩
theorem mid4 {w : World} {b : Nat} {t : TypeId} {x0 x1 x2 x3 x4 x5 : Value} (h : Blk w b #[x0, x1, x2, x3, x4, x5] t) : w.rangeAt b 1 [x1, x2, x3, x4] := fun j v hv => by
  match j, hv with
  | 0, hv => exact h.cell 1 hv
  | 1, hv => exact h.cell 2 hv
  | 2, hv => exact h.cell 3 hv
  | 3, hv => exact h.cell 4 hv
theorem ord_p (a b c d e f p q r s t u : Int) : ordP (a, b, c, d, e, f) (p, q, r, s, t, u) = orI (cmpI a p) (Sm.cmp b c d e q r s t) := by
  show (if a < p then (-1 : Int) else if p < a then 1 else Sm.cmp b c d e q r s t) = if (if a < p then (-1 : Int) else if p < a then 1 else 0) ≠ 0 then (if a < p then (-1 : Int) else if p < a then 1 else 0) else _
  by_cases h1 : a < p
  · rw [if_pos h1, if_pos h1, if_pos (by decide)]
  · by_cases h2 : p < a
    · rw [if_neg h1, if_pos h2, if_neg h1, if_pos h2, if_pos (by decide)]
    · rw [if_neg h1, if_neg h2, if_neg h1, if_neg h2, if_neg (by decide)]
set_option maxHeartbeats 2000000 in
theorem byOwner (a b c d e f p q r s t u : Int) (w : World) : Calls Tryz.prog 134 #[.agg (cP (a, b, c, d, e, f)).toArray, .agg (cP (p, q, r, s, t, u)).toArray] w fun x w' => x = .returned (.int .i64 (ordP (a, b, c, d, e, f) (p, q, r, s, t, u))) ∧ Bel w w' := by
  rw [ord_p]
  show Calls Tryz.prog 134 #[.agg #[.int .i64 a, .int .i64 b, .int .i64 c, .int .i64 d, .int .i64 e, .int .u64 f], .agg #[.int .i64 p, .int .i64 q, .int .i64 r, .int .i64 s, .int .i64 t, .int .u64 u]] w _
  have CM := Lib.hid (fun W => Sm.compare b c d e q r s t W)
  have CI := Lib.hid (fun W => compareI a p W)
  obtain ⟨W, hW⟩ : ∃ W, (w.alloc (.cells #[.int .i64 a, .int .i64 b, .int .i64 c, .int .i64 d, .int .i64 e, .int .u64 f] 93)).alloc (.cells #[.int .i64 p, .int .i64 q, .int .i64 r, .int .i64 s, .int .i64 t, .int .u64 u] 93) = W := ⟨_, rfl⟩
  have B0 := Lib.hid (show Bel w W by rw [← hW]; exact ((Bel.refl w).alloc _).alloc _)
  have P0 := (Blk.new w #[.int .i64 a, .int .i64 b, .int .i64 c, .int .i64 d, .int .i64 e, .int .u64 f] 93).alloc (.cells #[.int .i64 p, .int .i64 q, .int .i64 r, .int .i64 s, .int .i64 t, .int .u64 u] 93)
  have P1 := Blk.new (w.alloc (.cells #[.int .i64 a, .int .i64 b, .int .i64 c, .int .i64 d, .int .i64 e, .int .u64 f] 93)) #[.int .i64 p, .int .i64 q, .int .i64 r, .int .i64 s, .int .i64 t, .int .u64 u] 93
  rw [World.size_alloc] at P1
  rw [hW] at P0 P1
  obtain ⟨x, hx⟩ : ∃ x, cmpI a p = x := ⟨_, rfl⟩
  obtain ⟨y, hy⟩ : ∃ y, Sm.cmp b c d e q r s t = y := ⟨_, rfl⟩
  rw [hx] at CI ⊢
  rw [hy] at CM ⊢
  clear hx hy
  go_enter Tryz.func134, Tryz.ntmps134
  go_upto_region 1 with fail
  obtain ⟨g, hg⟩ : ∃ g, w.heap.size = g := ⟨_, rfl⟩
  rw [hg]
  rw [hg] at P0 P1
  have Q0 := Lib.hid P0
  have Q1 := Lib.hid P1
  clear P0 P1 hW hg
  refine wp_region_held_drew (S := fun V => Bel W V) (by kernel_rfl) (Bel.refl _).drew (fun hS0 => ?_)
  obtain ⟨w6, hw6⟩ : ∃ w6, World.drew W = w6 := ⟨_, rfl⟩
  rw [hw6] at hS0 ⊢
  clear hw6
  refine ztk 0 { dst := some 5, op := .fieldAddr 93 (.tmp 2) 0, type := 0, pos := "find.go:19", after := #[], guard := none } (.pointer (some ⟨g, 0, none⟩)) (Or.inl ⟨by rfl, by intro w hSw; clear hSw; go_simp⟩) hS0 ?_
  try simp only [Act.put, zq1, zq2, zq3]
  refine ztk 1 { dst := some 6, op := .load 3 (.tmp 5), type := 3, pos := "find.go:19", after := #[{ on := 0, ground := .data }], guard := none } (.int .i64 a) (Or.inl ⟨by rfl, by intro w h; have hcell := ((Q0.out.bel h).cell 0 rfl); clear h; go_simp⟩) hS0 ?_
  try simp only [Act.put, zq1, zq2, zq3]
  refine ztk 2 { dst := some 7, op := .fieldAddr 93 (.tmp 3) 0, type := 0, pos := "find.go:19", after := #[], guard := none } (.pointer (some ⟨g + 1, 0, none⟩)) (Or.inl ⟨by rfl, by intro w hSw; clear hSw; go_simp⟩) hS0 ?_
  try simp only [Act.put, zq1, zq2, zq3]
  refine ztk 3 { dst := some 8, op := .load 3 (.tmp 7), type := 3, pos := "find.go:19", after := #[{ on := 2, ground := .data }], guard := none } (.int .i64 p) (Or.inl ⟨by rfl, by intro w h; have hcell := ((Q1.out.bel h).cell 0 rfl); clear h; go_simp⟩) hS0 ?_
  try simp only [Act.put, zq1, zq2, zq3]
  refine ztk 5 { dst := some 10, op := .fieldAddr 93 (.tmp 2) 1, type := 0, pos := "find.go:19", after := #[], guard := none } (.pointer (some ⟨g, 1, none⟩)) (Or.inl ⟨by rfl, by intro w hSw; clear hSw; go_simp⟩) hS0 ?_
  try simp only [Act.put, zq1, zq2, zq3]
  refine ztk 6 { dst := some 11, op := .load 37 (.tmp 10), type := 37, pos := "find.go:19", after := #[{ on := 5, ground := .data }], guard := none } (.agg #[.int .i64 b, .int .i64 c, .int .i64 d, .int .i64 e]) (yieldsIf_load_mid (by rfl) _ _ rfl _ _ rfl _ _ (fun w h => (mid4 (Q0.out.bel h))) Tryz.underlying37 rfl info_s) hS0 ?_
  try simp only [Act.put, zq1, zq2, zq3]
  refine ztk 7 { dst := some 12, op := .fieldAddr 93 (.tmp 3) 1, type := 0, pos := "find.go:19", after := #[], guard := none } (.pointer (some ⟨g + 1, 1, none⟩)) (Or.inl ⟨by rfl, by intro w hSw; clear hSw; go_simp⟩) hS0 ?_
  try simp only [Act.put, zq1, zq2, zq3]
  refine ztk 8 { dst := some 13, op := .load 37 (.tmp 12), type := 37, pos := "find.go:19", after := #[{ on := 7, ground := .data }], guard := none } (.agg #[.int .i64 q, .int .i64 r, .int .i64 s, .int .i64 t]) (yieldsIf_load_mid (by rfl) _ _ rfl _ _ rfl _ _ (fun w h => (mid4 (Q1.out.bel h))) Tryz.underlying37 rfl info_s) hS0 ?_
  try simp only [Act.put, zq1, zq2, zq3]
  refine wpAnyH_ready (rs := [4]) (by kernel_rfl) (by simp) ?_
  refine AllReadyH.cons (o := { dst := some 9, op := .call { callee := .value (.func 184), args := #[.tmp 6, .tmp 8], argTypes := #[3, 3] }, type := 3, pos := "find.go:19", after := #[{ on := 1, ground := .data }, { on := 3, ground := .data }], guard := none }) rfl (fun K hK => ?_) AllReadyH.nil
  go_simp
  refine (CI.out _).mono ?_
  rintro e v1 ⟨rfl, rfl⟩
  go_wp2_with fail
  refine hK.out _ _ (hS0) (fun hS1 => ?_)
  clear hK K
  try simp only [Act.put, zq1, zq2, zq3]
  refine wpAnyH_ready (rs := [9]) (by kernel_rfl) (by simp) ?_
  refine AllReadyH.cons (o := { dst := some 14, op := .call { callee := .value (.func 181), args := #[.tmp 11, .tmp 13], argTypes := #[37, 37] }, type := 3, pos := "find.go:19", after := #[{ on := 6, ground := .data }, { on := 8, ground := .data }, { on := 4, ground := .chain }], guard := none }) rfl (fun K hK => ?_) AllReadyH.nil
  go_simp
  refine (CM.out _).mono ?_
  rintro e v2 ⟨rfl, kb⟩
  go_wp2_with fail
  refine hK.out _ _ (hS1.trans kb) (fun hS2 => ?_)
  clear hK K
  try simp only [Act.put, zq1, zq2, zq3]
  refine wpAnyH_ready (rs := [10]) (by kernel_rfl) (by simp) ?_
  refine AllReadyH.cons (o := { dst := some 15, op := .buildSlice 208 2 #[(0, .tmp 9), (1, .tmp 14)], type := 208, pos := "find.go:19", after := #[{ on := 4, ground := .data }, { on := 9, ground := .data }], guard := none }) rfl (fun K hK => ?_) AllReadyH.nil
  go_simp
  refine hK.out _ _ (hS2.alloc _) (fun hS3 => ?_)
  clear hK K
  try simp only [Act.put, zq1, zq2, zq3]
  refine wpAnyH_ready (rs := [11]) (by kernel_rfl) (by simp) ?_
  refine AllReadyH.cons (o := { dst := some 16, op := .call { callee := .value (.func 183), args := #[.tmp 15], argTypes := #[208] }, type := 3, pos := "find.go:19", after := #[{ on := 10, ground := .data }, { on := 9, ground := .chain }], guard := none }) rfl (fun K hK => ?_) AllReadyH.nil
  go_simp
  refine (or2 _ x y _ (by simp) (by simp)).mono ?_
  rintro e v4 ⟨rfl, rfl⟩
  go_wp2_with fail
  refine hK.out _ _ (hS3) (fun hS4 => ?_)
  clear hK K
  try simp only [Act.put, zq1, zq2, zq3]
  refine ztk 12 { dst := some 4, op := .assign (.tmp 16), type := 3, pos := "find.go:19", after := #[{ on := 11, ground := .data }, { on := 11, ground := .chain }, { on := 0, ground := .phase }, { on := 1, ground := .phase }, { on := 2, ground := .phase }, { on := 3, ground := .phase }, { on := 4, ground := .phase }, { on := 5, ground := .phase }, { on := 6, ground := .phase }, { on := 7, ground := .phase }, { on := 8, ground := .phase }, { on := 9, ground := .phase }, { on := 10, ground := .phase }, { on := 11, ground := .phase }], guard := none } (.int .i64 (orI x y)) (Or.inl ⟨by rfl, by intro w hSw; clear hSw; go_simp⟩) hS4 ?_
  try simp only [Act.put, zq1, zq2, zq3]
  refine wpAnyH_done (by kernel_rfl) ?_ _
  go_wp2_with fail
  go_ret
  exact ⟨rfl, B0.out.trans hS4⟩
end Ho
end Go.Proofs.YtneajcoiemkfbaaGreat
end

section
/-
  What holding.Check tells of classes and positions; what Join, Leave and Cut make of them: plain functions. No program.
-/
namespace Go.Proofs.YtneajcoiemkfbaaGreat
open Go.RowKit Go.Shelf
set_option linter.unusedVariables false
namespace Ho

def ckR : R6 → Int
  | (a, b, c, d, _, _) => Sm.ck a b c d
def chkR : R6 → Int
  | (_, _, _, _, e, f) => Sh.chk e f
def tok : R6 → Int
  | (_, _, _, _, e, _) => e
def shr : R6 → Int
  | (_, _, _, _, _, f) => f
def own : R6 → Int
  | (a, _, _, _, _, _) => a
/-- The stamp of a position, as a class is looked for. -/
def stp : R6 → R6
  | (_, a, b, c, d, _) => (a, b, c, d, 0, 0)

/-- Does it come behind the one ahead of it? -/
def foll (o : R6 → R6 → Int) : Option R6 → R6 → Bool
  | none, _ => true
  | some p, r => decide (o p r < 0)
def clE (p : Option R6) (r : R6) : Int :=
  if ckR r ≠ 0 then 3 else if foll ordC p r = false then 9 else if chkR r ≠ 0 then chkR r else if tok r = 0 ∧ shr r = 0 then 11 else 0
def poE (cs : List R6) (p : Option R6) (r : R6) : Int :=
  if ¬ (0 ≤ own r ∧ own r ≤ 63) then 3 else if foll ordP p r = false then 9 else if shr r = 0 then 14 else if get ordC cs (stp r) = none then 10 else 0
/-- The first error, one by one. -/
def seqE (E : Option R6 → R6 → Int) : Option R6 → List R6 → Int
  | _, [] => 0
  | p, r :: l => if E p r = 0 then seqE E (some r) l else E p r
/-- The one ahead. -/
def bef (p : Option R6) (l : List R6) : Nat → Option R6
  | 0 => p
  | j + 1 => l[j]?
theorem seqE_at (E : Option R6 → R6 → Int) : ∀ (l : List R6) (p : Option R6) (k : Nat) (r : R6), (∀ (j : Nat) (x : R6), j < k → l[j]? = some x → E (bef p l j) x = 0) → l[k]? = some r → E (bef p l k) r ≠ 0 → seqE E p l = E (bef p l k) r
  | [], p, k, r, _, h, _ => by simp at h
  | y :: l, p, 0, r, _, h, h0 => by
    simp at h; subst h
    exact if_neg h0
  | y :: l, p, k + 1, r, hz, h, h0 => by
    have h1 : E p y = 0 := hz 0 y (by omega) rfl
    have e : ∀ j, bef p (y :: l) (j + 1) = bef (some y) l j := fun j => by cases j <;> rfl
    show (if E p y = 0 then seqE E (some y) l else E p y) = _
    rw [if_pos h1, e]
    rw [e] at h0
    exact seqE_at E l (some y) k r (fun j x hj hx => by rw [← e]; exact hz (j + 1) x (by omega) (by simpa using hx)) (by simpa using h) h0
theorem seqE_end (E : Option R6 → R6 → Int) : ∀ (l : List R6) (p : Option R6), (∀ (j : Nat) (x : R6), l[j]? = some x → E (bef p l j) x = 0) → seqE E p l = 0
  | [], p, _ => rfl
  | y :: l, p, hz => by
    have e : ∀ j, bef p (y :: l) (j + 1) = bef (some y) l j := fun j => by cases j <;> rfl
    show (if E p y = 0 then seqE E (some y) l else E p y) = _
    have h0 : E p y = 0 := hz 0 y rfl
    rw [if_pos h0]
    exact seqE_end E l (some y) (fun j x hx => by rw [← e]; exact hz (j + 1) x (by simpa using hx))
theorem seqE_zero (E : Option R6 → R6 → Int) : ∀ (l : List R6) (p : Option R6), seqE E p l = 0 → ∀ (j : Nat) (x : R6), l[j]? = some x → E (bef p l j) x = 0
  | [], p, _, j, x, h => by simp at h
  | y :: l, p, h, j, x, hx => by
    have h' : (if E p y = 0 then seqE E (some y) l else E p y) = 0 := h
    have h1 : E p y = 0 := by
      by_cases h1 : E p y = 0
      · exact h1
      · rw [if_neg h1] at h'; exact h'
    rw [if_pos h1] at h'
    cases j with
    | zero => simp at hx; subst hx; exact h1
    | succ j =>
      have := seqE_zero E l (some y) h' j x (by simpa using hx)
      have e : bef p (y :: l) (j + 1) = bef (some y) l j := by cases j <;> rfl
      rw [e]; exact this
theorem seqE_mem {E : Option R6 → R6 → Int} {l : List R6} {p : Option R6} (h : seqE E p l = 0) : ∀ r ∈ l, ∃ q, E q r = 0 := fun r hr => by
  obtain ⟨i, hi, rfl⟩ := List.getElem_of_mem hr
  exact ⟨_, seqE_zero E l p h i _ (List.getElem?_eq_getElem hi)⟩
theorem seqE_srt {E : Option R6 → R6 → Int} {o : R6 → R6 → Int} (O : Od o) (hE : ∀ p r, E p r = 0 → foll o p r = true) : ∀ (l : List R6) (p : Option R6), seqE E p l = 0 → Srt o l ∧ ∀ q, p = some q → ∀ r ∈ l, o q r < 0
  | [], p, _ => ⟨List.Pairwise.nil, fun q _ r hr => by cases hr⟩
  | y :: l, p, h => by
    have h' : (if E p y = 0 then seqE E (some y) l else E p y) = 0 := h
    have h1 : E p y = 0 := by
      by_cases h1 : E p y = 0
      · exact h1
      · rw [if_neg h1] at h'; exact h'
    rw [if_pos h1] at h'
    obtain ⟨h2, h3⟩ := seqE_srt O hE l (some y) h'
    refine ⟨List.pairwise_cons.2 ⟨h3 y rfl, h2⟩, fun q hq r hr => ?_⟩
    subst hq
    have hy : o q y < 0 := by have := hE _ _ h1; exact of_decide_eq_true this
    rcases List.mem_cons.1 hr with rfl | hr
    · exact hy
    · exact O.trans q y r hy (h3 y rfl r hr)
/-- A list that is so in order, and each of whose rows is right. -/
theorem seqE_of {E : Option R6 → R6 → Int} {o : R6 → R6 → Int} : ∀ (l : List R6) (p : Option R6), Srt o l → (∀ q, p = some q → ∀ r ∈ l, o q r < 0) → (∀ q, ∀ r ∈ l, foll o q r = true → E q r = 0) → seqE E p l = 0
  | [], p, _, _, _ => rfl
  | y :: l, p, hs, hp, hE => by
    obtain ⟨h1, h2⟩ := List.pairwise_cons.1 hs
    have h0 : E p y = 0 := hE p y (List.mem_cons_self ..) (by
      cases p with
      | none => rfl
      | some q => exact decide_eq_true (hp q rfl y (List.mem_cons_self ..)))
    show (if E p y = 0 then seqE E (some y) l else E p y) = 0
    rw [if_pos h0]
    exact seqE_of l (some y) h2 (fun q hq r hr => by injection hq with hq; subst hq; exact h1 r hr) (fun q r hr => hE q r (List.mem_cons_of_mem _ hr))

/-- How many shares of a class positions have. -/
def sumS (ps : List R6) (x : R6) : Int := (ps.map fun p => if ordC (stp p) x = 0 then shr p else 0).sum
def addB (cs ps : List R6) : Bool := cs.all fun r => decide (sumS ps r = shr r)
def sumT (cs : List R6) : Int := (cs.map tok).sum
/-- What Check tells. -/
def chkH (cs ps : List R6) : Int :=
  Sh.fE [if 1024 < cs.length then 4 else 0, seqE clE none cs, if 4611686018427387904 < sumT cs then 12 else 0, seqE (poE cs) none ps, if addB cs ps then 0 else 11]

theorem clE_ok {p : Option R6} {r : R6} (h : clE p r = 0) : ckR r = 0 ∧ foll ordC p r = true ∧ chkR r = 0 ∧ ¬ (tok r = 0 ∧ shr r = 0) := by
  unfold clE at h
  by_cases h1 : ckR r = 0
  · rw [if_neg (by simpa using h1)] at h
    by_cases h2 : foll ordC p r = false
    · rw [if_pos h2] at h; cases h
    · rw [if_neg h2] at h
      by_cases h3 : chkR r = 0
      · rw [if_neg (by simpa using h3)] at h
        by_cases h4 : tok r = 0 ∧ shr r = 0
        · rw [if_pos h4] at h; cases h
        · exact ⟨h1, by simpa using h2, h3, h4⟩
      · rw [if_pos h3] at h; exact absurd h h3
  · rw [if_pos h1] at h; cases h
theorem clE_of {p : Option R6} {r : R6} (h1 : ckR r = 0) (h2 : foll ordC p r = true) (h3 : chkR r = 0) (h4 : ¬ (tok r = 0 ∧ shr r = 0)) : clE p r = 0 := by
  unfold clE
  rw [if_neg (by simpa using h1), if_neg (by rw [h2]; decide), if_neg (by simpa using h3), if_neg h4]
theorem poE_ok {cs : List R6} {p : Option R6} {r : R6} (h : poE cs p r = 0) : 0 ≤ own r ∧ own r ≤ 63 ∧ foll ordP p r = true ∧ shr r ≠ 0 ∧ get ordC cs (stp r) ≠ none := by
  unfold poE at h
  by_cases h1 : 0 ≤ own r ∧ own r ≤ 63
  · rw [if_neg (fun k => k h1)] at h
    by_cases h2 : foll ordP p r = false
    · rw [if_pos h2] at h; cases h
    · rw [if_neg h2] at h
      by_cases h3 : shr r = 0
      · rw [if_pos h3] at h; cases h
      · rw [if_neg h3] at h
        by_cases h4 : get ordC cs (stp r) = none
        · rw [if_pos h4] at h; cases h
        · exact ⟨h1.1, h1.2, by simpa using h2, h3, h4⟩
  · rw [if_pos h1] at h; cases h
theorem poE_of {cs : List R6} {p : Option R6} {r : R6} (h1 : 0 ≤ own r) (h1' : own r ≤ 63) (h2 : foll ordP p r = true) (h3 : shr r ≠ 0) (h4 : get ordC cs (stp r) ≠ none) : poE cs p r = 0 := by
  unfold poE
  rw [if_neg (fun k => k ⟨h1, h1'⟩), if_neg (by rw [h2]; decide), if_neg h3, if_neg h4]
theorem fE_cons {x : Int} {l : List Int} : Sh.fE (x :: l) = 0 ↔ x = 0 ∧ Sh.fE l = 0 := by
  show (if x = 0 then Sh.fE l else x) = 0 ↔ _
  by_cases h : x = 0
  · rw [if_pos h]; simp [h]
  · rw [if_neg h]; simp [h]
theorem fE_go {l : List Int} : Sh.fE (0 :: l) = Sh.fE l := rfl
theorem fE_no {x : Int} {l : List Int} (h : x ≠ 0) : Sh.fE (x :: l) = x := if_neg h
/-- A holding that may be. -/
structure Ok (cs ps : List R6) : Prop where
  len : cs.length ≤ 1024
  sc : Srt ordC cs
  cl : ∀ r ∈ cs, ckR r = 0 ∧ chkR r = 0 ∧ ¬ (tok r = 0 ∧ shr r = 0)
  tot : sumT cs ≤ 4611686018427387904
  sp : Srt ordP ps
  po : ∀ r ∈ ps, 0 ≤ own r ∧ own r ≤ 63 ∧ shr r ≠ 0 ∧ get ordC cs (stp r) ≠ none
  add : ∀ r ∈ cs, sumS ps r = shr r
theorem ok_iff (cs ps : List R6) : chkH cs ps = 0 ↔ Ok cs ps := by
  unfold chkH
  constructor
  · intro h
    obtain ⟨h1, h⟩ := fE_cons.1 h
    obtain ⟨h2, h⟩ := fE_cons.1 h
    obtain ⟨h3, h⟩ := fE_cons.1 h
    obtain ⟨h4, h⟩ := fE_cons.1 h
    obtain ⟨h5, _⟩ := fE_cons.1 h
    refine ⟨?_, (seqE_srt odC (fun p r k => (clE_ok k).2.1) cs none h2).1, fun r hr => ?_, ?_, (seqE_srt odP (fun p r k => (poE_ok k).2.2.1) ps none h4).1, fun r hr => ?_, fun r hr => ?_⟩
    · by_cases k : 1024 < cs.length
      · rw [if_pos k] at h1; cases h1
      · omega
    · obtain ⟨q, k⟩ := seqE_mem h2 r hr
      have := clE_ok k
      exact ⟨this.1, this.2.2.1, this.2.2.2⟩
    · by_cases k : 4611686018427387904 < sumT cs
      · rw [if_pos k] at h3; cases h3
      · omega
    · obtain ⟨q, k⟩ := seqE_mem h4 r hr
      have := poE_ok k
      exact ⟨this.1, this.2.1, this.2.2.2.1, this.2.2.2.2⟩
    · by_cases k : addB cs ps = true
      · exact of_decide_eq_true (List.all_eq_true.1 k r hr)
      · rw [if_neg k] at h5; cases h5
  · intro h
    refine fE_cons.2 ⟨if_neg (by have := h.len; omega), fE_cons.2 ⟨?_, fE_cons.2 ⟨if_neg (by have := h.tot; omega), fE_cons.2 ⟨?_, fE_cons.2 ⟨?_, rfl⟩⟩⟩⟩⟩
    · exact seqE_of (o := ordC) cs none h.sc (fun q hq => by cases hq) (fun q r hr hf => clE_of (h.cl r hr).1 hf (h.cl r hr).2.1 (h.cl r hr).2.2)
    · exact seqE_of (o := ordP) ps none h.sp (fun q hq => by cases hq) (fun q r hr hf => poE_of (h.po r hr).1 (h.po r hr).2.1 hf (h.po r hr).2.2.1 (h.po r hr).2.2.2)
    · exact if_pos (List.all_eq_true.2 fun r hr => decide_eq_true (h.add r hr))

/-- The pool of a stamp, and what an owner has. -/
def polT (cs : List R6) (s : R6) : Int := match get ordC cs s with | some r => tok r | none => 0
def polS (cs : List R6) (s : R6) : Int := match get ordC cs s with | some r => shr r | none => 0
def shs (ps : List R6) (q : R6) : Int := match get ordP ps q with | some r => shr r | none => 0

/-- Join by o of x, of the stamp a b c d. -/
def jE (cs ps : List R6) (o a b c d x : Int) : Int :=
  Sh.fE [chkH cs ps, if ¬ (0 ≤ o ∧ o ≤ 63) ∨ Sm.ck a b c d ≠ 0 then 3 else 0, if (polT cs (a, b, c, d, 0, 0) = 0 ∧ polS cs (a, b, c, d, 0, 0) = 0) ∧ cs.length = 1024 then 7 else 0,
    Sh.joiE (polT cs (a, b, c, d, 0, 0)) (polS cs (a, b, c, d, 0, 0)) x, if 4611686018427387904 < sumT cs + x then 12 else 0]
def setC (cs : List R6) (a b c d T S : Int) : List R6 := put ordC cs (a, b, c, d, T, S) (!decide (T = 0 ∧ S = 0))
def setP (ps : List R6) (o a b c d x : Int) : List R6 := put ordP ps (o, a, b, c, d, x) (decide (0 < x))
/-- Leave. -/
def lE (cs ps : List R6) (o a b c d x : Int) : Int :=
  Sh.fE [chkH cs ps, if shs ps (o, a, b, c, d, 0) = 0 then 10 else 0, if shs ps (o, a, b, c, d, 0) < x then 13 else 0, Sh.leaE (polT cs (a, b, c, d, 0, 0)) (polS cs (a, b, c, d, 0, 0)) x]
/-- Cut. -/
def bkR (v h : Int) : R6 → Bool
  | (a, b, c, d, _, _) => Sm.bkB a b c d v h 0
def cutR (v h p : Int) : R6 → R6
  | (a, b, c, d, e, f) => if Sm.bkB a b c d v h 0 then (a, b, c, d, Sh.cutT e f p, Sh.cutS e f p) else (a, b, c, d, e, f)
def losR (p : Int) : R6 → R6
  | (a, b, c, d, e, f) => (a, b, c, d, Sh.cutN e f p, 0)
def full (r : R6) : Bool := !decide (tok r = 0 ∧ shr r = 0)
end Ho
end Go.Proofs.YtneajcoiemkfbaaGreat
end

section
/-
  What holding.find and follows answer, of classes and of positions. Conditions: the list is in order (find), of at most a billion rows.
-/
namespace Go.Proofs.YtneajcoiemkfbaaGreat
open Go.RowKit Go.Shelf
set_option linter.unusedVariables false
namespace Ho
open Kk Pm

theorem inB_at (o : R6 → R6 → Int) (l : List R6) (x r : R6) (h : l[pos o l x]? = some r) : inB o l x = decide (o r x = 0) := by
  unfold inB
  rw [get_at, h]
  by_cases h0 : o r x = 0
  · simp [h0]
  · simp [h0]
theorem inB_no (o : R6 → R6 → Int) (l : List R6) (x : R6) (h : l[pos o l x]? = none) : inB o l x = false := by
  unfold inB
  rw [get_at, h]
  rfl

theorem boxC (x1 x2 x3 x4 x5 x6 : Int) (w : World) : Blk (w.alloc (.cells #[.int .i64 x1, .int .i64 x2, .int .i64 x3, .int .i64 x4, .int .u64 x5, .int .u64 x6] 90)) w.heap.size #[.int .i64 x1, .int .i64 x2, .int .i64 x3, .int .i64 x4, .int .u64 x5, .int .u64 x6] 90 := Blk.new _ _ _
theorem rowC {w : World} {b q : Nat} {r1 r2 r3 r4 r5 r6 : Int} (h : w.rangeAt b q (cC (r1, r2, r3, r4, r5, r6))) : w.rangeAt b q [.int .i64 r1, .int .i64 r2, .int .i64 r3, .int .i64 r4, .int .u64 r5, .int .u64 r6] := h
theorem wrap_half {f t : Nat} (h : f < t) : ∃ m : Nat, (f : Int) + ((t : Int) - f) / 2 = m ∧ f ≤ m ∧ m < t := by
  refine ⟨f + (t - f) / 2, ?_, by omega, by omega⟩
  push_cast
  omega
set_option maxRecDepth 10000 in
set_option maxHeartbeats 2000000 in
theorem findC (A : Option Addr) (n c : Nat) (l : List R6) (x1 x2 x3 x4 x5 x6 : Int) (w : World) (h : RS cC w A n c l) (hn : n ≤ 1000000000) (hs : Srt ordC l) :
    Calls Tryz.prog 149 #[.slice A n c, .agg #[.int .i64 x1, .int .i64 x2, .int .i64 x3, .int .i64 x4, .int .u64 x5, .int .u64 x6], .func (.func 130) #[] #[]] w fun e w' => e = .returned (.tuple #[.int .i64 (pos ordC l (x1, x2, x3, x4, x5, x6)), .bool (inB ordC l (x1, x2, x3, x4, x5, x6))]) ∧ Bel w w' := by
  have HK := Lib.hid (pos_lt odC l (x1, x2, x3, x4, x5, x6) hs)
  have hkn : pos ordC l (x1, x2, x3, x4, x5, x6) ≤ n := by have := pos_le ordC l (x1, x2, x3, x4, x5, x6); have := h.len; omega
  have HI := Lib.hid (inB_at ordC l (x1, x2, x3, x4, x5, x6))
  have HN := Lib.hid (inB_no ordC l (x1, x2, x3, x4, x5, x6))
  have HL := Lib.hid h.len
  obtain ⟨I, hI⟩ : ∃ I, inB ordC l (x1, x2, x3, x4, x5, x6) = I := ⟨_, rfl⟩
  rw [hI] at HI HN ⊢
  obtain ⟨K, hK⟩ : ∃ K, pos ordC l (x1, x2, x3, x4, x5, x6) = K := ⟨_, rfl⟩
  rw [hK] at HK hkn HI HN ⊢
  clear hI hK hs
  obtain ⟨W, hW⟩ : ∃ W, w.alloc (.cells #[.int .i64 x1, .int .i64 x2, .int .i64 x3, .int .i64 x4, .int .u64 x5, .int .u64 x6] 90) = W := ⟨_, rfl⟩
  have P0 := boxC x1 x2 x3 x4 x5 x6 w
  have B0 : Bel w W := by rw [← hW]; exact (Bel.refl _).alloc _
  rw [hW] at P0
  have HR := Lib.hid (h.bel B0)
  have HB := Lib.hid B0
  clear h B0
  go_enter Tryz.func149, Tryz.ntmps149
  go_upto_region 1 with fail
  obtain ⟨g, hg⟩ : ∃ g, w.heap.size = g := ⟨_, rfl⟩
  rw [hg]
  rw [hg] at P0
  have Q0 := Lib.hid P0
  clear P0 hW hg
  go_wp2_with fail
  go_loopw [8, 9] (fun s8 s9 wr => ∃ f t : Nat, s8 = .int .i64 f ∧ s9 = .int .i64 t ∧ f ≤ K ∧ K ≤ t ∧ t ≤ n ∧ Hid (Bel W wr)) (fun s8 s9 _ => (intOf s9).toNat - (intOf s8).toNat)
  case atStart => exact ⟨0, n, rfl, rfl, Nat.zero_le _, hkn, Nat.le_refl _, Lib.hid (Bel.refl _)⟩
  case round =>
    obtain ⟨f, t, rfl, rfl, hfK, hKt, htn, hh⟩ := hrel
    by_cases hlt : f < t
    · obtain ⟨m, hm, hfm, hmt⟩ := wrap_half hlt
      obtain ⟨⟨r1, r2, r3, r4, r5, r6⟩, hr⟩ := HR.out.get (i := m) (by omega)
      obtain ⟨b, o, rfl, hb, hrow⟩ := (HR.out.bel hh.out).at (by omega) hr
      have RW := Lib.hid (rowC hrow)
      have HP := Lib.hid (HK.out m _ hr)
      clear hr hrow
      obtain ⟨y, hy⟩ : ∃ y, ordC (r1, r2, r3, r4, r5, r6) (x1, x2, x3, x4, x5, x6) = y := ⟨_, rfl⟩
      have CB := Lib.hid (fun V => byStamp r1 r2 r3 r4 r5 r6 x1 x2 x3 x4 x5 x6 V)
      rw [hy] at HP CB
      clear hy
      have Q1 := Lib.hid (Q0.out.bel hh.out)
      have hlt3 : (f : Int) < t := by omega
      have hmn : (m : Int) < n := by omega
      go_upto_region 4 with fail
      refine wp_region_held_drew (S := fun V => Bel wr V) (by kernel_rfl) (Bel.refl _).drew (fun hS0 => ?_)
      obtain ⟨w6, hw6⟩ : ∃ w6, World.drew wr = w6 := ⟨_, rfl⟩
      rw [hw6] at hS0 ⊢
      clear hw6
      refine ztk 0 { dst := some 22, op := .move (.tmp 2), type := 218, pos := "find.go:27", after := #[], guard := none } (.func (.func 130) #[] #[]) (Or.inl ⟨by rfl, by intro w hSw; clear hSw; go_simp⟩) hS0 ?_
      try simp only [Act.put, zq1, zq2, zq3]
      refine ztk 1 { dst := some 23, op := .move (.tmp 0), type := 22, pos := "find.go:27", after := #[], guard := none } (.slice (some ⟨b, o, none⟩) n c) (Or.inl ⟨by rfl, by intro w hSw; clear hSw; go_simp⟩) hS0 ?_
      try simp only [Act.put, zq1, zq2, zq3]
      refine ztk 2 { dst := some 24, op := .move (.tmp 10), type := 3, pos := "find.go:27", after := #[], guard := none } (.int .i64 m) (Or.inl ⟨by rfl, by intro w hSw; clear hSw; go_simp⟩) hS0 ?_
      try simp only [Act.put, zq1, zq2, zq3]
      refine ztk 3 { dst := some 25, op := .indexAddr 22 (.tmp 23) (.tmp 24), type := 0, pos := "find.go:27", after := #[{ on := 1, ground := .data }, { on := 2, ground := .data }], guard := none } (.pointer (some ⟨b, o + m * 6, none⟩)) (Or.inl ⟨by rfl, by intro w hSw; clear hSw; go_simp⟩) hS0 ?_
      try simp only [Act.put, zq1, zq2, zq3]
      refine ztk 4 { dst := some 26, op := .load 90 (.tmp 25), type := 90, pos := "find.go:27", after := #[{ on := 3, ground := .data }], guard := none } (.agg #[.int .i64 r1, .int .i64 r2, .int .i64 r3, .int .i64 r4, .int .u64 r5, .int .u64 r6]) (yieldsIf_load_mid (by rfl) _ _ rfl _ _ rfl _ _ (fun w h => rng_bel RW.out h) Tryz.underlying90 rfl info_c) hS0 ?_
      try simp only [Act.put, zq1, zq2, zq3]
      refine ztk 5 { dst := some 27, op := .load 90 (.tmp 4), type := 90, pos := "find.go:27", after := #[], guard := none } (.agg #[.int .i64 x1, .int .i64 x2, .int .i64 x3, .int .i64 x4, .int .u64 x5, .int .u64 x6]) (yieldsIf_load_mid (by rfl) _ _ rfl _ _ rfl _ _ (fun w h => rng_bel (rngB (C := [.int .i64 x1, .int .i64 x2, .int .i64 x3, .int .i64 x4, .int .u64 x5, .int .u64 x6]) Q1.out) h) Tryz.underlying90 rfl info_c) hS0 ?_
      try simp only [Act.put, zq1, zq2, zq3]
      refine wpAnyH_ready (rs := [6]) (by kernel_rfl) (by simp) ?_
      refine AllReadyH.cons (o := { dst := some 28, op := .call { callee := .value (.tmp 22), args := #[.tmp 26, .tmp 27], argTypes := #[90, 90] }, type := 3, pos := "find.go:27", after := #[{ on := 0, ground := .data }, { on := 4, ground := .data }, { on := 5, ground := .data }], guard := none }) rfl (fun K hK => ?_) AllReadyH.nil
      go_simp
      refine (CB.out _).mono ?_
      rintro e v1 ⟨rfl, kb⟩
      go_wp2_with fail
      refine hK.out _ _ (hS0.trans kb) (fun hS1 => ?_)
      clear hK K
      try simp only [Act.put, zq1, zq2, zq3]
      refine ztk 7 { dst := some 29, op := .binOp .lss 3 (.tmp 28) (.const (Value.int IntKind.i64 0)) 3, type := 4, pos := "find.go:27", after := #[{ on := 6, ground := .data }], guard := none } (.bool (decide (y < 0))) (Or.inl ⟨by rfl, by intro w hSw; clear hSw; go_simp⟩) hS1 ?_
      try simp only [Act.put, zq1, zq2, zq3]
      refine wpAnyH_done (by kernel_rfl) ?_ _
      have HE := Lib.hid (hh.out.trans hS1)
      clear hm CB
      by_cases hy : y < 0
      · go_wp2_with fail
        go_roundw
        case rel => exact ⟨m + 1, t, by go_num, rfl, by have := HP.out.1 hy; omega, hKt, htn, HE⟩
        case measure => simp [intOf]; omega
      · go_wp2_with fail
        go_roundw
        case rel => exact ⟨f, m, rfl, rfl, hfK, by have := mt HP.out.2 hy; omega, by omega, HE⟩
        case measure => simp [intOf]; omega
    · obtain rfl : f = K := by omega
      obtain rfl : t = f := by omega
      go_upto_region 7 with fail
      by_cases hkn2 : t < n
      · obtain ⟨⟨r1, r2, r3, r4, r5, r6⟩, hr⟩ := HR.out.get (i := t) hkn2
        obtain ⟨b, o, rfl, hb, hrow⟩ := (HR.out.bel hh.out).at hkn2 hr
        have RW := Lib.hid (rowC hrow)
        have HI2 := Lib.hid (HI.out _ hr)
        clear hr hrow
        obtain ⟨y, hy⟩ : ∃ y, ordC (r1, r2, r3, r4, r5, r6) (x1, x2, x3, x4, x5, x6) = y := ⟨_, rfl⟩
        have CB := Lib.hid (fun V => byStamp r1 r2 r3 r4 r5 r6 x1 x2 x3 x4 x5 x6 V)
        rw [hy] at HI2 CB
        clear hy
        have Q1 := Lib.hid (Q0.out.bel hh.out)
        have hlt3 : (t : Int) < n := by omega
        refine wp_region_held_drew (S := fun V => Bel wr V) (by kernel_rfl) (Bel.refl _).drew (fun hS0 => ?_)
        obtain ⟨w6, hw6⟩ : ∃ w6, World.drew wr = w6 := ⟨_, rfl⟩
        rw [hw6] at hS0 ⊢
        clear hw6
        refine ztk 0 { dst := some 33, op := .move (.tmp 8), type := 3, pos := "find.go:33", after := #[], guard := none } (.int .i64 t) (Or.inl ⟨by rfl, by intro w hSw; clear hSw; go_simp⟩) hS0 ?_
        try simp only [Act.put, zq1, zq2, zq3]
        refine ztk 1 { dst := some 34, op := .move (.tmp 8), type := 3, pos := "find.go:33", after := #[], guard := none } (.int .i64 t) (Or.inl ⟨by rfl, by intro w hSw; clear hSw; go_simp⟩) hS0 ?_
        try simp only [Act.put, zq1, zq2, zq3]
        refine ztk 2 { dst := some 35, op := .move (.tmp 0), type := 22, pos := "find.go:33", after := #[], guard := none } (.slice (some ⟨b, o, none⟩) n c) (Or.inl ⟨by rfl, by intro w hSw; clear hSw; go_simp⟩) hS0 ?_
        try simp only [Act.put, zq1, zq2, zq3]
        refine ztk 3 { dst := some 36, op := .call { callee := .builtin .len, args := #[.tmp 35], argTypes := #[22] }, type := 3, pos := "find.go:33", after := #[{ on := 2, ground := .data }], guard := none } (.int .i64 n) (Or.inl ⟨by rfl, by intro w hSw; clear hSw; go_simp⟩) hS0 ?_
        try simp only [Act.put, zq1, zq2, zq3]
        refine ztk 4 { dst := some 37, op := .binOp .lss 3 (.tmp 34) (.tmp 36) 3, type := 4, pos := "find.go:33", after := #[{ on := 1, ground := .data }, { on := 3, ground := .data }], guard := none } (.bool true) (Or.inl ⟨by rfl, by intro w hSw; clear hSw; go_simp⟩) hS0 ?_
        try simp only [Act.put, zq1, zq2, zq3]
        refine ztk 5 { dst := some 38, op := .move (.tmp 37), type := 4, pos := "find.go:33", after := #[{ on := 4, ground := .data }], guard := none } (.bool true) (Or.inl ⟨by rfl, by intro w hSw; clear hSw; go_simp⟩) hS0 ?_
        try simp only [Act.put, zq1, zq2, zq3]
        refine ztk 6 { dst := some 39, op := .move (.tmp 2), type := 218, pos := "find.go:33", after := #[{ on := 5, ground := .guard }], guard := some (5, true) } (.func (.func 130) #[] #[]) (Or.inl ⟨by rfl, by intro w hSw; clear hSw; go_simp⟩) hS0 ?_
        try simp only [Act.put, zq1, zq2, zq3]
        refine ztk 7 { dst := some 40, op := .move (.tmp 0), type := 22, pos := "find.go:33", after := #[{ on := 5, ground := .guard }], guard := some (5, true) } (.slice (some ⟨b, o, none⟩) n c) (Or.inl ⟨by rfl, by intro w hSw; clear hSw; go_simp⟩) hS0 ?_
        try simp only [Act.put, zq1, zq2, zq3]
        refine ztk 8 { dst := some 41, op := .move (.tmp 8), type := 3, pos := "find.go:33", after := #[{ on := 5, ground := .guard }], guard := some (5, true) } (.int .i64 t) (Or.inl ⟨by rfl, by intro w hSw; clear hSw; go_simp⟩) hS0 ?_
        try simp only [Act.put, zq1, zq2, zq3]
        refine ztk 9 { dst := some 42, op := .indexAddr 22 (.tmp 40) (.tmp 41), type := 0, pos := "find.go:33", after := #[{ on := 7, ground := .data }, { on := 8, ground := .data }, { on := 5, ground := .guard }], guard := some (5, true) } (.pointer (some ⟨b, o + t * 6, none⟩)) (Or.inl ⟨by rfl, by intro w hSw; clear hSw; go_simp⟩) hS0 ?_
        try simp only [Act.put, zq1, zq2, zq3]
        refine ztk 10 { dst := some 43, op := .load 90 (.tmp 42), type := 90, pos := "find.go:33", after := #[{ on := 9, ground := .data }, { on := 5, ground := .guard }], guard := some (5, true) } (.agg #[.int .i64 r1, .int .i64 r2, .int .i64 r3, .int .i64 r4, .int .u64 r5, .int .u64 r6]) (yieldsIf_load_mid (by rfl) _ _ rfl _ _ rfl _ _ (fun w h => rng_bel RW.out h) Tryz.underlying90 rfl info_c) hS0 ?_
        try simp only [Act.put, zq1, zq2, zq3]
        refine ztk 11 { dst := some 44, op := .load 90 (.tmp 4), type := 90, pos := "find.go:33", after := #[{ on := 5, ground := .guard }], guard := some (5, true) } (.agg #[.int .i64 x1, .int .i64 x2, .int .i64 x3, .int .i64 x4, .int .u64 x5, .int .u64 x6]) (yieldsIf_load_mid (by rfl) _ _ rfl _ _ rfl _ _ (fun w h => rng_bel (rngB (C := [.int .i64 x1, .int .i64 x2, .int .i64 x3, .int .i64 x4, .int .u64 x5, .int .u64 x6]) Q1.out) h) Tryz.underlying90 rfl info_c) hS0 ?_
        try simp only [Act.put, zq1, zq2, zq3]
        refine wpAnyH_ready (rs := [12]) (by kernel_rfl) (by simp) ?_
        refine AllReadyH.cons (o := { dst := some 45, op := .call { callee := .value (.tmp 39), args := #[.tmp 43, .tmp 44], argTypes := #[90, 90] }, type := 3, pos := "find.go:33", after := #[{ on := 6, ground := .data }, { on := 10, ground := .data }, { on := 11, ground := .data }, { on := 5, ground := .chain }, { on := 5, ground := .guard }], guard := some (5, true) }) rfl (fun K hK => ?_) AllReadyH.nil
        go_simp
        refine (CB.out _).mono ?_
        rintro e v1 ⟨rfl, kb⟩
        go_wp2_with fail
        refine hK.out _ _ (hS0.trans kb) (fun hS1 => ?_)
        clear hK K
        try simp only [Act.put, zq1, zq2, zq3]
        refine ztk 15 { dst := some 6, op := .assign (.tmp 33), type := 3, pos := "find.go:33", after := #[{ on := 0, ground := .data }, { on := 12, ground := .chain }, { on := 0, ground := .phase }, { on := 1, ground := .textOnly .lateStores }, { on := 2, ground := .textOnly .lateStores }, { on := 3, ground := .textOnly .lateStoresUnsure }, { on := 4, ground := .textOnly .lateStores }, { on := 5, ground := .textOnly .lateStores }, { on := 6, ground := .textOnly .lateStores }, { on := 7, ground := .textOnly .lateStores }, { on := 8, ground := .textOnly .lateStores }, { on := 9, ground := .textOnly .lateStores }, { on := 10, ground := .textOnly .lateStores }, { on := 11, ground := .textOnly .lateStores }, { on := 12, ground := .textOnly .lateStoresUnsure }, { on := 13, ground := .textOnly .lateStores }, { on := 14, ground := .textOnly .lateStores }], guard := none } (.int .i64 t) (Or.inl ⟨by rfl, by intro w hSw; clear hSw; go_simp⟩) hS1 ?_
        try simp only [Act.put, zq1, zq2, zq3]
        refine ztk 13 { dst := some 46, op := .binOp .eql 3 (.tmp 45) (.const (Value.int IntKind.i64 0)) 3, type := 4, pos := "find.go:33", after := #[{ on := 12, ground := .data }, { on := 5, ground := .guard }, { on := 15, ground := .gcOnly .lateStores }], guard := some (5, true) } (.bool (y == 0)) (Or.inl ⟨by rfl, by intro w hSw; clear hSw; go_simp⟩) hS1 ?_
        try simp only [Act.put, zq1, zq2, zq3]
        refine ztk 14 { dst := some 47, op := .pick (.tmp 38) (.tmp 46) (.const (Value.bool false)), type := 4, pos := "find.go:33", after := #[{ on := 5, ground := .data }, { on := 13, ground := .data }, { on := 15, ground := .gcOnly .lateStores }], guard := none } (.bool (y == 0)) (Or.inl ⟨by rfl, by intro w hSw; clear hSw; go_simp⟩) hS1 ?_
        try simp only [Act.put, zq1, zq2, zq3]
        refine ztk 16 { dst := some 7, op := .assign (.tmp 47), type := 4, pos := "find.go:33", after := #[{ on := 14, ground := .data }, { on := 15, ground := .chain }, { on := 0, ground := .phase }, { on := 1, ground := .phase }, { on := 2, ground := .phase }, { on := 3, ground := .phase }, { on := 4, ground := .phase }, { on := 5, ground := .phase }, { on := 6, ground := .phase }, { on := 7, ground := .phase }, { on := 8, ground := .phase }, { on := 9, ground := .phase }, { on := 10, ground := .phase }, { on := 11, ground := .phase }, { on := 12, ground := .phase }, { on := 13, ground := .phase }, { on := 14, ground := .phase }, { on := 15, ground := .phase }], guard := none } (.bool (y == 0)) (Or.inl ⟨by rfl, by intro w hSw; clear hSw; go_simp⟩) hS1 ?_
        try simp only [Act.put, zq1, zq2, zq3]
        refine wpAnyH_done (by kernel_rfl) ?_ _
        have HE := Lib.hid (HB.out.trans (hh.out.trans hS1))
        go_wp2_with fail
        go_ret2
        exact ⟨by rw [HI2.out, show decide (y = 0) = (y == 0) from Bool.eq_iff_iff.2 (by simp)]; rfl, HE.out⟩
      · have hI : I = false := HN.out (List.getElem?_eq_none (by rw [HL.out]; omega))
        subst hI
        have hlt3 : ¬ (t : Int) < n := by omega
        have hd : decide ((t : Int) < n) = false := decide_eq_false hlt3
        refine wp_region_held_drew (S := fun V => Bel wr V) (by kernel_rfl) (Bel.refl _).drew (fun hS0 => ?_)
        obtain ⟨w6, hw6⟩ : ∃ w6, World.drew wr = w6 := ⟨_, rfl⟩
        rw [hw6] at hS0 ⊢
        clear hw6
        refine ztk 0 { dst := some 33, op := .move (.tmp 8), type := 3, pos := "find.go:33", after := #[], guard := none } (.int .i64 t) (Or.inl ⟨by rfl, by intro w hSw; clear hSw; go_simp⟩) hS0 ?_
        try simp only [Act.put, zq1, zq2, zq3]
        refine ztk 1 { dst := some 34, op := .move (.tmp 8), type := 3, pos := "find.go:33", after := #[], guard := none } (.int .i64 t) (Or.inl ⟨by rfl, by intro w hSw; clear hSw; go_simp⟩) hS0 ?_
        try simp only [Act.put, zq1, zq2, zq3]
        refine ztk 2 { dst := some 35, op := .move (.tmp 0), type := 22, pos := "find.go:33", after := #[], guard := none } (.slice A n c) (Or.inl ⟨by rfl, by intro w hSw; clear hSw; go_simp⟩) hS0 ?_
        try simp only [Act.put, zq1, zq2, zq3]
        refine ztk 3 { dst := some 36, op := .call { callee := .builtin .len, args := #[.tmp 35], argTypes := #[22] }, type := 3, pos := "find.go:33", after := #[{ on := 2, ground := .data }], guard := none } (.int .i64 n) (Or.inl ⟨by rfl, by intro w hSw; clear hSw; go_simp⟩) hS0 ?_
        try simp only [Act.put, zq1, zq2, zq3]
        refine ztk 4 { dst := some 37, op := .binOp .lss 3 (.tmp 34) (.tmp 36) 3, type := 4, pos := "find.go:33", after := #[{ on := 1, ground := .data }, { on := 3, ground := .data }], guard := none } (.bool false) (Or.inl ⟨by rfl, by intro w hSw; clear hSw; go_simp⟩) hS0 ?_
        try simp only [Act.put, zq1, zq2, zq3]
        refine ztk 5 { dst := some 38, op := .move (.tmp 37), type := 4, pos := "find.go:33", after := #[{ on := 4, ground := .data }], guard := none } (.bool false) (Or.inl ⟨by rfl, by intro w hSw; clear hSw; go_simp⟩) hS0 ?_
        try simp only [Act.put, zq1, zq2, zq3]
        refine ztk 6 { dst := some 39, op := .move (.tmp 2), type := 218, pos := "find.go:33", after := #[{ on := 5, ground := .guard }], guard := some (5, true) } (undef) (Or.inr ⟨by rfl, by rfl⟩) hS0 ?_
        try simp only [Act.put, zq1, zq2, zq3]
        refine ztk 7 { dst := some 40, op := .move (.tmp 0), type := 22, pos := "find.go:33", after := #[{ on := 5, ground := .guard }], guard := some (5, true) } (undef) (Or.inr ⟨by rfl, by rfl⟩) hS0 ?_
        try simp only [Act.put, zq1, zq2, zq3]
        refine ztk 8 { dst := some 41, op := .move (.tmp 8), type := 3, pos := "find.go:33", after := #[{ on := 5, ground := .guard }], guard := some (5, true) } (undef) (Or.inr ⟨by rfl, by rfl⟩) hS0 ?_
        try simp only [Act.put, zq1, zq2, zq3]
        refine ztk 9 { dst := some 42, op := .indexAddr 22 (.tmp 40) (.tmp 41), type := 0, pos := "find.go:33", after := #[{ on := 7, ground := .data }, { on := 8, ground := .data }, { on := 5, ground := .guard }], guard := some (5, true) } (undef) (Or.inr ⟨by rfl, by rfl⟩) hS0 ?_
        try simp only [Act.put, zq1, zq2, zq3]
        refine ztk 10 { dst := some 43, op := .load 90 (.tmp 42), type := 90, pos := "find.go:33", after := #[{ on := 9, ground := .data }, { on := 5, ground := .guard }], guard := some (5, true) } (undef) (Or.inr ⟨by rfl, by rfl⟩) hS0 ?_
        try simp only [Act.put, zq1, zq2, zq3]
        refine ztk 11 { dst := some 44, op := .load 90 (.tmp 4), type := 90, pos := "find.go:33", after := #[{ on := 5, ground := .guard }], guard := some (5, true) } (undef) (Or.inr ⟨by rfl, by rfl⟩) hS0 ?_
        try simp only [Act.put, zq1, zq2, zq3]
        refine ztk 12 { dst := some 45, op := .call { callee := .value (.tmp 39), args := #[.tmp 43, .tmp 44], argTypes := #[90, 90] }, type := 3, pos := "find.go:33", after := #[{ on := 6, ground := .data }, { on := 10, ground := .data }, { on := 11, ground := .data }, { on := 5, ground := .chain }, { on := 5, ground := .guard }], guard := some (5, true) } (undef) (Or.inr ⟨by rfl, by rfl⟩) hS0 ?_
        try simp only [Act.put, zq1, zq2, zq3]
        refine ztk 15 { dst := some 6, op := .assign (.tmp 33), type := 3, pos := "find.go:33", after := #[{ on := 0, ground := .data }, { on := 12, ground := .chain }, { on := 0, ground := .phase }, { on := 1, ground := .textOnly .lateStores }, { on := 2, ground := .textOnly .lateStores }, { on := 3, ground := .textOnly .lateStoresUnsure }, { on := 4, ground := .textOnly .lateStores }, { on := 5, ground := .textOnly .lateStores }, { on := 6, ground := .textOnly .lateStores }, { on := 7, ground := .textOnly .lateStores }, { on := 8, ground := .textOnly .lateStores }, { on := 9, ground := .textOnly .lateStores }, { on := 10, ground := .textOnly .lateStores }, { on := 11, ground := .textOnly .lateStores }, { on := 12, ground := .textOnly .lateStoresUnsure }, { on := 13, ground := .textOnly .lateStores }, { on := 14, ground := .textOnly .lateStores }], guard := none } (.int .i64 t) (Or.inl ⟨by rfl, by intro w hSw; clear hSw; go_simp⟩) hS0 ?_
        try simp only [Act.put, zq1, zq2, zq3]
        refine ztk 13 { dst := some 46, op := .binOp .eql 3 (.tmp 45) (.const (Value.int IntKind.i64 0)) 3, type := 4, pos := "find.go:33", after := #[{ on := 12, ground := .data }, { on := 5, ground := .guard }, { on := 15, ground := .gcOnly .lateStores }], guard := some (5, true) } (undef) (Or.inr ⟨by rfl, by rfl⟩) hS0 ?_
        try simp only [Act.put, zq1, zq2, zq3]
        refine ztk 14 { dst := some 47, op := .pick (.tmp 38) (.tmp 46) (.const (Value.bool false)), type := 4, pos := "find.go:33", after := #[{ on := 5, ground := .data }, { on := 13, ground := .data }, { on := 15, ground := .gcOnly .lateStores }], guard := none } (.bool false) (Or.inl ⟨by rfl, by intro w hSw; clear hSw; go_simp⟩) hS0 ?_
        try simp only [Act.put, zq1, zq2, zq3]
        refine ztk 16 { dst := some 7, op := .assign (.tmp 47), type := 4, pos := "find.go:33", after := #[{ on := 14, ground := .data }, { on := 15, ground := .chain }, { on := 0, ground := .phase }, { on := 1, ground := .phase }, { on := 2, ground := .phase }, { on := 3, ground := .phase }, { on := 4, ground := .phase }, { on := 5, ground := .phase }, { on := 6, ground := .phase }, { on := 7, ground := .phase }, { on := 8, ground := .phase }, { on := 9, ground := .phase }, { on := 10, ground := .phase }, { on := 11, ground := .phase }, { on := 12, ground := .phase }, { on := 13, ground := .phase }, { on := 14, ground := .phase }, { on := 15, ground := .phase }], guard := none } (.bool false) (Or.inl ⟨by rfl, by intro w hSw; clear hSw; go_simp⟩) hS0 ?_
        try simp only [Act.put, zq1, zq2, zq3]
        refine wpAnyH_done (by kernel_rfl) ?_ _
        have HE := Lib.hid (HB.out.trans (hh.out.trans hS0))
        go_wp2_with fail
        go_ret2
        exact ⟨rfl, HE.out⟩

set_option maxRecDepth 10000 in
set_option maxHeartbeats 2000000 in
theorem followsC (A : Option Addr) (n c : Nat) (l : List R6) (x1 x2 x3 x4 x5 x6 : Int) (p : Option R6) (w : World) (h : RS cC w A n c l) (hn : n ≤ 1000000000) (hp : p = if n = 0 then none else l[n - 1]?) :
    Calls Tryz.prog 129 #[.slice A n c, .agg #[.int .i64 x1, .int .i64 x2, .int .i64 x3, .int .i64 x4, .int .u64 x5, .int .u64 x6], .func (.func 130) #[] #[]] w fun e w' => e = .returned (.bool (foll ordC p (x1, x2, x3, x4, x5, x6))) ∧ Bel w w' := by
  obtain ⟨W, hW⟩ : ∃ W, w.alloc (.cells #[.int .i64 x1, .int .i64 x2, .int .i64 x3, .int .i64 x4, .int .u64 x5, .int .u64 x6] 90) = W := ⟨_, rfl⟩
  have P0 := boxC x1 x2 x3 x4 x5 x6 w
  have B0 : Bel w W := by rw [← hW]; exact (Bel.refl _).alloc _
  rw [hW] at P0
  by_cases hn0 : n = 0
  · subst hn0
    obtain rfl : p = none := by rw [hp, if_pos rfl]
    have HB := Lib.hid B0
    clear h B0 hp
    go_enter Tryz.func129, Tryz.ntmps129
    go_upto_region 1 with fail
    obtain ⟨g, hg⟩ : ∃ g, w.heap.size = g := ⟨_, rfl⟩
    rw [hg]
    clear P0 hW hg
    refine wp_region_held_drew (S := fun V => Bel W V) (by kernel_rfl) (Bel.refl _).drew (fun hS0 => ?_)
    obtain ⟨w6, hw6⟩ : ∃ w6, World.drew W = w6 := ⟨_, rfl⟩
    rw [hw6] at hS0 ⊢
    clear hw6
    refine ztk 0 { dst := some 7, op := .move (.tmp 0), type := 22, pos := "find.go:38", after := #[], guard := none } (.slice A 0 c) (Or.inl ⟨by rfl, by intro w hSw; clear hSw; go_simp⟩) hS0 ?_
    try simp only [Act.put, zq1, zq2, zq3]
    refine ztk 1 { dst := some 8, op := .call { callee := .builtin .len, args := #[.tmp 7], argTypes := #[22] }, type := 3, pos := "find.go:38", after := #[{ on := 0, ground := .data }], guard := none } (.int .i64 0) (Or.inl ⟨by rfl, by intro w hSw; clear hSw; go_simp⟩) hS0 ?_
    try simp only [Act.put, zq1, zq2, zq3]
    refine ztk 2 { dst := some 9, op := .binOp .eql 3 (.tmp 8) (.const (Value.int IntKind.i64 0)) 3, type := 4, pos := "find.go:38", after := #[{ on := 1, ground := .data }], guard := none } (.bool true) (Or.inl ⟨by rfl, by intro w hSw; clear hSw; go_simp⟩) hS0 ?_
    try simp only [Act.put, zq1, zq2, zq3]
    refine ztk 3 { dst := some 10, op := .move (.tmp 9), type := 4, pos := "find.go:38", after := #[{ on := 2, ground := .data }], guard := none } (.bool true) (Or.inl ⟨by rfl, by intro w hSw; clear hSw; go_simp⟩) hS0 ?_
    try simp only [Act.put, zq1, zq2, zq3]
    refine ztk 4 { dst := some 11, op := .move (.tmp 2), type := 218, pos := "find.go:38", after := #[{ on := 3, ground := .guard }], guard := some (3, false) } (undef) (Or.inr ⟨by rfl, by rfl⟩) hS0 ?_
    try simp only [Act.put, zq1, zq2, zq3]
    refine ztk 5 { dst := some 12, op := .move (.tmp 0), type := 22, pos := "find.go:38", after := #[{ on := 3, ground := .guard }], guard := some (3, false) } (undef) (Or.inr ⟨by rfl, by rfl⟩) hS0 ?_
    try simp only [Act.put, zq1, zq2, zq3]
    refine ztk 6 { dst := some 13, op := .move (.tmp 0), type := 22, pos := "find.go:38", after := #[{ on := 3, ground := .guard }], guard := some (3, false) } (undef) (Or.inr ⟨by rfl, by rfl⟩) hS0 ?_
    try simp only [Act.put, zq1, zq2, zq3]
    refine ztk 7 { dst := some 14, op := .call { callee := .builtin .len, args := #[.tmp 13], argTypes := #[22] }, type := 3, pos := "find.go:38", after := #[{ on := 6, ground := .data }, { on := 3, ground := .guard }], guard := some (3, false) } (undef) (Or.inr ⟨by rfl, by rfl⟩) hS0 ?_
    try simp only [Act.put, zq1, zq2, zq3]
    refine ztk 8 { dst := some 15, op := .binOp .sub 3 (.tmp 14) (.const (Value.int IntKind.i64 1)) 3, type := 3, pos := "find.go:38", after := #[{ on := 7, ground := .data }, { on := 3, ground := .guard }], guard := some (3, false) } (undef) (Or.inr ⟨by rfl, by rfl⟩) hS0 ?_
    try simp only [Act.put, zq1, zq2, zq3]
    refine ztk 9 { dst := some 16, op := .indexAddr 22 (.tmp 12) (.tmp 15), type := 0, pos := "find.go:38", after := #[{ on := 5, ground := .data }, { on := 8, ground := .data }, { on := 3, ground := .guard }], guard := some (3, false) } (undef) (Or.inr ⟨by rfl, by rfl⟩) hS0 ?_
    try simp only [Act.put, zq1, zq2, zq3]
    refine ztk 10 { dst := some 17, op := .load 90 (.tmp 16), type := 90, pos := "find.go:38", after := #[{ on := 9, ground := .data }, { on := 3, ground := .guard }], guard := some (3, false) } (undef) (Or.inr ⟨by rfl, by rfl⟩) hS0 ?_
    try simp only [Act.put, zq1, zq2, zq3]
    refine ztk 11 { dst := some 18, op := .load 90 (.tmp 4), type := 90, pos := "find.go:38", after := #[{ on := 3, ground := .guard }], guard := some (3, false) } (undef) (Or.inr ⟨by rfl, by rfl⟩) hS0 ?_
    try simp only [Act.put, zq1, zq2, zq3]
    refine ztk 12 { dst := some 19, op := .call { callee := .value (.tmp 11), args := #[.tmp 17, .tmp 18], argTypes := #[90, 90] }, type := 3, pos := "find.go:38", after := #[{ on := 4, ground := .data }, { on := 10, ground := .data }, { on := 11, ground := .data }, { on := 3, ground := .chain }, { on := 3, ground := .guard }], guard := some (3, false) } (undef) (Or.inr ⟨by rfl, by rfl⟩) hS0 ?_
    try simp only [Act.put, zq1, zq2, zq3]
    refine ztk 13 { dst := some 20, op := .binOp .lss 3 (.tmp 19) (.const (Value.int IntKind.i64 0)) 3, type := 4, pos := "find.go:38", after := #[{ on := 12, ground := .data }, { on := 3, ground := .guard }], guard := some (3, false) } (undef) (Or.inr ⟨by rfl, by rfl⟩) hS0 ?_
    try simp only [Act.put, zq1, zq2, zq3]
    refine ztk 14 { dst := some 21, op := .pick (.tmp 10) (.const (Value.bool true)) (.tmp 20), type := 4, pos := "find.go:38", after := #[{ on := 3, ground := .data }, { on := 13, ground := .data }], guard := none } (.bool true) (Or.inl ⟨by rfl, by intro w hSw; clear hSw; go_simp⟩) hS0 ?_
    try simp only [Act.put, zq1, zq2, zq3]
    refine ztk 15 { dst := some 6, op := .assign (.tmp 21), type := 4, pos := "find.go:38", after := #[{ on := 14, ground := .data }, { on := 12, ground := .chain }, { on := 0, ground := .phase }, { on := 1, ground := .phase }, { on := 2, ground := .phase }, { on := 3, ground := .phase }, { on := 4, ground := .phase }, { on := 5, ground := .phase }, { on := 6, ground := .phase }, { on := 7, ground := .phase }, { on := 8, ground := .phase }, { on := 9, ground := .phase }, { on := 10, ground := .phase }, { on := 11, ground := .phase }, { on := 12, ground := .phase }, { on := 13, ground := .phase }, { on := 14, ground := .phase }], guard := none } (.bool true) (Or.inl ⟨by rfl, by intro w hSw; clear hSw; go_simp⟩) hS0 ?_
    try simp only [Act.put, zq1, zq2, zq3]
    refine wpAnyH_done (by kernel_rfl) ?_ _
    go_wp2_with fail
    go_ret
    exact ⟨rfl, HB.out.trans hS0⟩
  · obtain ⟨⟨r1, r2, r3, r4, r5, r6⟩, hr⟩ := h.get (i := n - 1) (by omega)
    obtain rfl : p = some (r1, r2, r3, r4, r5, r6) := by rw [hp, if_neg hn0, hr]
    obtain ⟨b, o, rfl, hb, hrow⟩ := (h.bel B0).at (by omega) hr
    have RW := Lib.hid (rowC hrow)
    have HB := Lib.hid B0
    obtain ⟨m, hm⟩ : ∃ m, n - 1 = m := ⟨_, rfl⟩
    have hm1 : (n : Int) - 1 = m := by omega
    have hn1 : (m : Int) < n := by omega
    have hwr : IntKind.i64.wrap (m : Int) = m := IntWalk.i64_in _ (by omega)
    have hnn : ((n : Int) == 0) = false := by rw [beq_eq_false_iff_ne]; omega
    rw [hm] at RW
    clear hrow hr h B0 hp hm hn0
    obtain ⟨y, hy⟩ : ∃ y, ordC (r1, r2, r3, r4, r5, r6) (x1, x2, x3, x4, x5, x6) = y := ⟨_, rfl⟩
    have CB := Lib.hid (fun V => byStamp r1 r2 r3 r4 r5 r6 x1 x2 x3 x4 x5 x6 V)
    show Calls _ _ _ _ fun e w' => e = .returned (.bool (decide (ordC (r1, r2, r3, r4, r5, r6) (x1, x2, x3, x4, x5, x6) < 0))) ∧ Bel w w'
    rw [hy] at CB ⊢
    clear hy
    go_enter Tryz.func129, Tryz.ntmps129
    go_upto_region 1 with fail
    obtain ⟨g, hg⟩ : ∃ g, w.heap.size = g := ⟨_, rfl⟩
    rw [hg]
    rw [hg] at P0
    have Q1 := Lib.hid P0
    clear P0 hW hg
    refine wp_region_held_drew (S := fun V => Bel W V) (by kernel_rfl) (Bel.refl _).drew (fun hS0 => ?_)
    obtain ⟨w6, hw6⟩ : ∃ w6, World.drew W = w6 := ⟨_, rfl⟩
    rw [hw6] at hS0 ⊢
    clear hw6
    refine ztk 0 { dst := some 7, op := .move (.tmp 0), type := 22, pos := "find.go:38", after := #[], guard := none } (.slice (some ⟨b, o, none⟩) n c) (Or.inl ⟨by rfl, by intro w hSw; clear hSw; go_simp⟩) hS0 ?_
    try simp only [Act.put, zq1, zq2, zq3]
    refine ztk 1 { dst := some 8, op := .call { callee := .builtin .len, args := #[.tmp 7], argTypes := #[22] }, type := 3, pos := "find.go:38", after := #[{ on := 0, ground := .data }], guard := none } (.int .i64 n) (Or.inl ⟨by rfl, by intro w hSw; clear hSw; go_simp⟩) hS0 ?_
    try simp only [Act.put, zq1, zq2, zq3]
    refine ztk 2 { dst := some 9, op := .binOp .eql 3 (.tmp 8) (.const (Value.int IntKind.i64 0)) 3, type := 4, pos := "find.go:38", after := #[{ on := 1, ground := .data }], guard := none } (.bool false) (Or.inl ⟨by rfl, by intro w hSw; clear hSw; go_simp⟩) hS0 ?_
    try simp only [Act.put, zq1, zq2, zq3]
    refine ztk 3 { dst := some 10, op := .move (.tmp 9), type := 4, pos := "find.go:38", after := #[{ on := 2, ground := .data }], guard := none } (.bool false) (Or.inl ⟨by rfl, by intro w hSw; clear hSw; go_simp⟩) hS0 ?_
    try simp only [Act.put, zq1, zq2, zq3]
    refine ztk 4 { dst := some 11, op := .move (.tmp 2), type := 218, pos := "find.go:38", after := #[{ on := 3, ground := .guard }], guard := some (3, false) } (.func (.func 130) #[] #[]) (Or.inl ⟨by rfl, by intro w hSw; clear hSw; go_simp⟩) hS0 ?_
    try simp only [Act.put, zq1, zq2, zq3]
    refine ztk 5 { dst := some 12, op := .move (.tmp 0), type := 22, pos := "find.go:38", after := #[{ on := 3, ground := .guard }], guard := some (3, false) } (.slice (some ⟨b, o, none⟩) n c) (Or.inl ⟨by rfl, by intro w hSw; clear hSw; go_simp⟩) hS0 ?_
    try simp only [Act.put, zq1, zq2, zq3]
    refine ztk 6 { dst := some 13, op := .move (.tmp 0), type := 22, pos := "find.go:38", after := #[{ on := 3, ground := .guard }], guard := some (3, false) } (.slice (some ⟨b, o, none⟩) n c) (Or.inl ⟨by rfl, by intro w hSw; clear hSw; go_simp⟩) hS0 ?_
    try simp only [Act.put, zq1, zq2, zq3]
    refine ztk 7 { dst := some 14, op := .call { callee := .builtin .len, args := #[.tmp 13], argTypes := #[22] }, type := 3, pos := "find.go:38", after := #[{ on := 6, ground := .data }, { on := 3, ground := .guard }], guard := some (3, false) } (.int .i64 n) (Or.inl ⟨by rfl, by intro w hSw; clear hSw; go_simp⟩) hS0 ?_
    try simp only [Act.put, zq1, zq2, zq3]
    refine ztk 8 { dst := some 15, op := .binOp .sub 3 (.tmp 14) (.const (Value.int IntKind.i64 1)) 3, type := 3, pos := "find.go:38", after := #[{ on := 7, ground := .data }, { on := 3, ground := .guard }], guard := some (3, false) } (.int .i64 m) (Or.inl ⟨by rfl, by intro w hSw; clear hSw; go_simp⟩) hS0 ?_
    try simp only [Act.put, zq1, zq2, zq3]
    refine ztk 9 { dst := some 16, op := .indexAddr 22 (.tmp 12) (.tmp 15), type := 0, pos := "find.go:38", after := #[{ on := 5, ground := .data }, { on := 8, ground := .data }, { on := 3, ground := .guard }], guard := some (3, false) } (.pointer (some ⟨b, o + m * 6, none⟩)) (Or.inl ⟨by rfl, by intro w hSw; clear hSw; go_simp⟩) hS0 ?_
    try simp only [Act.put, zq1, zq2, zq3]
    refine ztk 10 { dst := some 17, op := .load 90 (.tmp 16), type := 90, pos := "find.go:38", after := #[{ on := 9, ground := .data }, { on := 3, ground := .guard }], guard := some (3, false) } (.agg #[.int .i64 r1, .int .i64 r2, .int .i64 r3, .int .i64 r4, .int .u64 r5, .int .u64 r6]) (yieldsIf_load_mid (by rfl) _ _ rfl _ _ rfl _ _ (fun w h => rng_bel RW.out h) Tryz.underlying90 rfl info_c) hS0 ?_
    try simp only [Act.put, zq1, zq2, zq3]
    refine ztk 11 { dst := some 18, op := .load 90 (.tmp 4), type := 90, pos := "find.go:38", after := #[{ on := 3, ground := .guard }], guard := some (3, false) } (.agg #[.int .i64 x1, .int .i64 x2, .int .i64 x3, .int .i64 x4, .int .u64 x5, .int .u64 x6]) (yieldsIf_load_mid (by rfl) _ _ rfl _ _ rfl _ _ (fun w h => rng_bel (rngB (C := [.int .i64 x1, .int .i64 x2, .int .i64 x3, .int .i64 x4, .int .u64 x5, .int .u64 x6]) Q1.out) h) Tryz.underlying90 rfl info_c) hS0 ?_
    try simp only [Act.put, zq1, zq2, zq3]
    refine wpAnyH_ready (rs := [12]) (by kernel_rfl) (by simp) ?_
    refine AllReadyH.cons (o := { dst := some 19, op := .call { callee := .value (.tmp 11), args := #[.tmp 17, .tmp 18], argTypes := #[90, 90] }, type := 3, pos := "find.go:38", after := #[{ on := 4, ground := .data }, { on := 10, ground := .data }, { on := 11, ground := .data }, { on := 3, ground := .chain }, { on := 3, ground := .guard }], guard := some (3, false) }) rfl (fun K hK => ?_) AllReadyH.nil
    go_simp
    refine (CB.out _).mono ?_
    rintro e v1 ⟨rfl, kb⟩
    go_wp2_with fail
    refine hK.out _ _ (hS0.trans kb) (fun hS1 => ?_)
    clear hK K
    try simp only [Act.put, zq1, zq2, zq3]
    refine ztk 13 { dst := some 20, op := .binOp .lss 3 (.tmp 19) (.const (Value.int IntKind.i64 0)) 3, type := 4, pos := "find.go:38", after := #[{ on := 12, ground := .data }, { on := 3, ground := .guard }], guard := some (3, false) } (.bool (decide (y < 0))) (Or.inl ⟨by rfl, by intro w hSw; clear hSw; go_simp⟩) hS1 ?_
    try simp only [Act.put, zq1, zq2, zq3]
    refine ztk 14 { dst := some 21, op := .pick (.tmp 10) (.const (Value.bool true)) (.tmp 20), type := 4, pos := "find.go:38", after := #[{ on := 3, ground := .data }, { on := 13, ground := .data }], guard := none } (.bool (decide (y < 0))) (Or.inl ⟨by rfl, by intro w hSw; clear hSw; go_simp⟩) hS1 ?_
    try simp only [Act.put, zq1, zq2, zq3]
    refine ztk 15 { dst := some 6, op := .assign (.tmp 21), type := 4, pos := "find.go:38", after := #[{ on := 14, ground := .data }, { on := 12, ground := .chain }, { on := 0, ground := .phase }, { on := 1, ground := .phase }, { on := 2, ground := .phase }, { on := 3, ground := .phase }, { on := 4, ground := .phase }, { on := 5, ground := .phase }, { on := 6, ground := .phase }, { on := 7, ground := .phase }, { on := 8, ground := .phase }, { on := 9, ground := .phase }, { on := 10, ground := .phase }, { on := 11, ground := .phase }, { on := 12, ground := .phase }, { on := 13, ground := .phase }, { on := 14, ground := .phase }], guard := none } (.bool (decide (y < 0))) (Or.inl ⟨by rfl, by intro w hSw; clear hSw; go_simp⟩) hS1 ?_
    try simp only [Act.put, zq1, zq2, zq3]
    refine wpAnyH_done (by kernel_rfl) ?_ _
    go_wp2_with fail
    go_ret
    exact ⟨rfl, HB.out.trans hS1⟩

theorem boxP (x1 x2 x3 x4 x5 x6 : Int) (w : World) : Blk (w.alloc (.cells #[.int .i64 x1, .int .i64 x2, .int .i64 x3, .int .i64 x4, .int .i64 x5, .int .u64 x6] 93)) w.heap.size #[.int .i64 x1, .int .i64 x2, .int .i64 x3, .int .i64 x4, .int .i64 x5, .int .u64 x6] 93 := Blk.new _ _ _
theorem rowP {w : World} {b q : Nat} {r1 r2 r3 r4 r5 r6 : Int} (h : w.rangeAt b q (cP (r1, r2, r3, r4, r5, r6))) : w.rangeAt b q [.int .i64 r1, .int .i64 r2, .int .i64 r3, .int .i64 r4, .int .i64 r5, .int .u64 r6] := h
set_option maxRecDepth 10000 in
set_option maxHeartbeats 2000000 in
theorem findP (A : Option Addr) (n c : Nat) (l : List R6) (x1 x2 x3 x4 x5 x6 : Int) (w : World) (h : RS cP w A n c l) (hn : n ≤ 1000000000) (hs : Srt ordP l) :
    Calls Tryz.prog 147 #[.slice A n c, .agg #[.int .i64 x1, .int .i64 x2, .int .i64 x3, .int .i64 x4, .int .i64 x5, .int .u64 x6], .func (.func 134) #[] #[]] w fun e w' => e = .returned (.tuple #[.int .i64 (pos ordP l (x1, x2, x3, x4, x5, x6)), .bool (inB ordP l (x1, x2, x3, x4, x5, x6))]) ∧ Bel w w' := by
  have HK := Lib.hid (pos_lt odP l (x1, x2, x3, x4, x5, x6) hs)
  have hkn : pos ordP l (x1, x2, x3, x4, x5, x6) ≤ n := by have := pos_le ordP l (x1, x2, x3, x4, x5, x6); have := h.len; omega
  have HI := Lib.hid (inB_at ordP l (x1, x2, x3, x4, x5, x6))
  have HN := Lib.hid (inB_no ordP l (x1, x2, x3, x4, x5, x6))
  have HL := Lib.hid h.len
  obtain ⟨I, hI⟩ : ∃ I, inB ordP l (x1, x2, x3, x4, x5, x6) = I := ⟨_, rfl⟩
  rw [hI] at HI HN ⊢
  obtain ⟨K, hK⟩ : ∃ K, pos ordP l (x1, x2, x3, x4, x5, x6) = K := ⟨_, rfl⟩
  rw [hK] at HK hkn HI HN ⊢
  clear hI hK hs
  obtain ⟨W, hW⟩ : ∃ W, w.alloc (.cells #[.int .i64 x1, .int .i64 x2, .int .i64 x3, .int .i64 x4, .int .i64 x5, .int .u64 x6] 93) = W := ⟨_, rfl⟩
  have P0 := boxP x1 x2 x3 x4 x5 x6 w
  have B0 : Bel w W := by rw [← hW]; exact (Bel.refl _).alloc _
  rw [hW] at P0
  have HR := Lib.hid (h.bel B0)
  have HB := Lib.hid B0
  clear h B0
  go_enter Tryz.func147, Tryz.ntmps147
  go_upto_region 1 with fail
  obtain ⟨g, hg⟩ : ∃ g, w.heap.size = g := ⟨_, rfl⟩
  rw [hg]
  rw [hg] at P0
  have Q0 := Lib.hid P0
  clear P0 hW hg
  go_wp2_with fail
  go_loopw [8, 9] (fun s8 s9 wr => ∃ f t : Nat, s8 = .int .i64 f ∧ s9 = .int .i64 t ∧ f ≤ K ∧ K ≤ t ∧ t ≤ n ∧ Hid (Bel W wr)) (fun s8 s9 _ => (intOf s9).toNat - (intOf s8).toNat)
  case atStart => exact ⟨0, n, rfl, rfl, Nat.zero_le _, hkn, Nat.le_refl _, Lib.hid (Bel.refl _)⟩
  case round =>
    obtain ⟨f, t, rfl, rfl, hfK, hKt, htn, hh⟩ := hrel
    by_cases hlt : f < t
    · obtain ⟨m, hm, hfm, hmt⟩ := wrap_half hlt
      obtain ⟨⟨r1, r2, r3, r4, r5, r6⟩, hr⟩ := HR.out.get (i := m) (by omega)
      obtain ⟨b, o, rfl, hb, hrow⟩ := (HR.out.bel hh.out).at (by omega) hr
      have RW := Lib.hid (rowP hrow)
      have HP := Lib.hid (HK.out m _ hr)
      clear hr hrow
      obtain ⟨y, hy⟩ : ∃ y, ordP (r1, r2, r3, r4, r5, r6) (x1, x2, x3, x4, x5, x6) = y := ⟨_, rfl⟩
      have CB := Lib.hid (fun V => byOwner r1 r2 r3 r4 r5 r6 x1 x2 x3 x4 x5 x6 V)
      rw [hy] at HP CB
      clear hy
      have Q1 := Lib.hid (Q0.out.bel hh.out)
      have hlt3 : (f : Int) < t := by omega
      have hmn : (m : Int) < n := by omega
      go_upto_region 4 with fail
      refine wp_region_held_drew (S := fun V => Bel wr V) (by kernel_rfl) (Bel.refl _).drew (fun hS0 => ?_)
      obtain ⟨w6, hw6⟩ : ∃ w6, World.drew wr = w6 := ⟨_, rfl⟩
      rw [hw6] at hS0 ⊢
      clear hw6
      refine ztk 0 { dst := some 22, op := .move (.tmp 2), type := 219, pos := "find.go:27", after := #[], guard := none } (.func (.func 134) #[] #[]) (Or.inl ⟨by rfl, by intro w hSw; clear hSw; go_simp⟩) hS0 ?_
      try simp only [Act.put, zq1, zq2, zq3]
      refine ztk 1 { dst := some 23, op := .move (.tmp 0), type := 23, pos := "find.go:27", after := #[], guard := none } (.slice (some ⟨b, o, none⟩) n c) (Or.inl ⟨by rfl, by intro w hSw; clear hSw; go_simp⟩) hS0 ?_
      try simp only [Act.put, zq1, zq2, zq3]
      refine ztk 2 { dst := some 24, op := .move (.tmp 10), type := 3, pos := "find.go:27", after := #[], guard := none } (.int .i64 m) (Or.inl ⟨by rfl, by intro w hSw; clear hSw; go_simp⟩) hS0 ?_
      try simp only [Act.put, zq1, zq2, zq3]
      refine ztk 3 { dst := some 25, op := .indexAddr 23 (.tmp 23) (.tmp 24), type := 0, pos := "find.go:27", after := #[{ on := 1, ground := .data }, { on := 2, ground := .data }], guard := none } (.pointer (some ⟨b, o + m * 6, none⟩)) (Or.inl ⟨by rfl, by intro w hSw; clear hSw; go_simp⟩) hS0 ?_
      try simp only [Act.put, zq1, zq2, zq3]
      refine ztk 4 { dst := some 26, op := .load 93 (.tmp 25), type := 93, pos := "find.go:27", after := #[{ on := 3, ground := .data }], guard := none } (.agg #[.int .i64 r1, .int .i64 r2, .int .i64 r3, .int .i64 r4, .int .i64 r5, .int .u64 r6]) (yieldsIf_load_mid (by rfl) _ _ rfl _ _ rfl _ _ (fun w h => rng_bel RW.out h) Tryz.underlying93 rfl info_p) hS0 ?_
      try simp only [Act.put, zq1, zq2, zq3]
      refine ztk 5 { dst := some 27, op := .load 93 (.tmp 4), type := 93, pos := "find.go:27", after := #[], guard := none } (.agg #[.int .i64 x1, .int .i64 x2, .int .i64 x3, .int .i64 x4, .int .i64 x5, .int .u64 x6]) (yieldsIf_load_mid (by rfl) _ _ rfl _ _ rfl _ _ (fun w h => rng_bel (rngB (C := [.int .i64 x1, .int .i64 x2, .int .i64 x3, .int .i64 x4, .int .i64 x5, .int .u64 x6]) Q1.out) h) Tryz.underlying93 rfl info_p) hS0 ?_
      try simp only [Act.put, zq1, zq2, zq3]
      refine wpAnyH_ready (rs := [6]) (by kernel_rfl) (by simp) ?_
      refine AllReadyH.cons (o := { dst := some 28, op := .call { callee := .value (.tmp 22), args := #[.tmp 26, .tmp 27], argTypes := #[93, 93] }, type := 3, pos := "find.go:27", after := #[{ on := 0, ground := .data }, { on := 4, ground := .data }, { on := 5, ground := .data }], guard := none }) rfl (fun K hK => ?_) AllReadyH.nil
      go_simp
      refine (CB.out _).mono ?_
      rintro e v1 ⟨rfl, kb⟩
      go_wp2_with fail
      refine hK.out _ _ (hS0.trans kb) (fun hS1 => ?_)
      clear hK K
      try simp only [Act.put, zq1, zq2, zq3]
      refine ztk 7 { dst := some 29, op := .binOp .lss 3 (.tmp 28) (.const (Value.int IntKind.i64 0)) 3, type := 4, pos := "find.go:27", after := #[{ on := 6, ground := .data }], guard := none } (.bool (decide (y < 0))) (Or.inl ⟨by rfl, by intro w hSw; clear hSw; go_simp⟩) hS1 ?_
      try simp only [Act.put, zq1, zq2, zq3]
      refine wpAnyH_done (by kernel_rfl) ?_ _
      have HE := Lib.hid (hh.out.trans hS1)
      clear hm CB
      by_cases hy : y < 0
      · go_wp2_with fail
        go_roundw
        case rel => exact ⟨m + 1, t, by go_num, rfl, by have := HP.out.1 hy; omega, hKt, htn, HE⟩
        case measure => simp [intOf]; omega
      · go_wp2_with fail
        go_roundw
        case rel => exact ⟨f, m, rfl, rfl, hfK, by have := mt HP.out.2 hy; omega, by omega, HE⟩
        case measure => simp [intOf]; omega
    · obtain rfl : f = K := by omega
      obtain rfl : t = f := by omega
      go_upto_region 7 with fail
      by_cases hkn2 : t < n
      · obtain ⟨⟨r1, r2, r3, r4, r5, r6⟩, hr⟩ := HR.out.get (i := t) hkn2
        obtain ⟨b, o, rfl, hb, hrow⟩ := (HR.out.bel hh.out).at hkn2 hr
        have RW := Lib.hid (rowP hrow)
        have HI2 := Lib.hid (HI.out _ hr)
        clear hr hrow
        obtain ⟨y, hy⟩ : ∃ y, ordP (r1, r2, r3, r4, r5, r6) (x1, x2, x3, x4, x5, x6) = y := ⟨_, rfl⟩
        have CB := Lib.hid (fun V => byOwner r1 r2 r3 r4 r5 r6 x1 x2 x3 x4 x5 x6 V)
        rw [hy] at HI2 CB
        clear hy
        have Q1 := Lib.hid (Q0.out.bel hh.out)
        have hlt3 : (t : Int) < n := by omega
        refine wp_region_held_drew (S := fun V => Bel wr V) (by kernel_rfl) (Bel.refl _).drew (fun hS0 => ?_)
        obtain ⟨w6, hw6⟩ : ∃ w6, World.drew wr = w6 := ⟨_, rfl⟩
        rw [hw6] at hS0 ⊢
        clear hw6
        refine ztk 0 { dst := some 33, op := .move (.tmp 8), type := 3, pos := "find.go:33", after := #[], guard := none } (.int .i64 t) (Or.inl ⟨by rfl, by intro w hSw; clear hSw; go_simp⟩) hS0 ?_
        try simp only [Act.put, zq1, zq2, zq3]
        refine ztk 1 { dst := some 34, op := .move (.tmp 8), type := 3, pos := "find.go:33", after := #[], guard := none } (.int .i64 t) (Or.inl ⟨by rfl, by intro w hSw; clear hSw; go_simp⟩) hS0 ?_
        try simp only [Act.put, zq1, zq2, zq3]
        refine ztk 2 { dst := some 35, op := .move (.tmp 0), type := 23, pos := "find.go:33", after := #[], guard := none } (.slice (some ⟨b, o, none⟩) n c) (Or.inl ⟨by rfl, by intro w hSw; clear hSw; go_simp⟩) hS0 ?_
        try simp only [Act.put, zq1, zq2, zq3]
        refine ztk 3 { dst := some 36, op := .call { callee := .builtin .len, args := #[.tmp 35], argTypes := #[23] }, type := 3, pos := "find.go:33", after := #[{ on := 2, ground := .data }], guard := none } (.int .i64 n) (Or.inl ⟨by rfl, by intro w hSw; clear hSw; go_simp⟩) hS0 ?_
        try simp only [Act.put, zq1, zq2, zq3]
        refine ztk 4 { dst := some 37, op := .binOp .lss 3 (.tmp 34) (.tmp 36) 3, type := 4, pos := "find.go:33", after := #[{ on := 1, ground := .data }, { on := 3, ground := .data }], guard := none } (.bool true) (Or.inl ⟨by rfl, by intro w hSw; clear hSw; go_simp⟩) hS0 ?_
        try simp only [Act.put, zq1, zq2, zq3]
        refine ztk 5 { dst := some 38, op := .move (.tmp 37), type := 4, pos := "find.go:33", after := #[{ on := 4, ground := .data }], guard := none } (.bool true) (Or.inl ⟨by rfl, by intro w hSw; clear hSw; go_simp⟩) hS0 ?_
        try simp only [Act.put, zq1, zq2, zq3]
        refine ztk 6 { dst := some 39, op := .move (.tmp 2), type := 219, pos := "find.go:33", after := #[{ on := 5, ground := .guard }], guard := some (5, true) } (.func (.func 134) #[] #[]) (Or.inl ⟨by rfl, by intro w hSw; clear hSw; go_simp⟩) hS0 ?_
        try simp only [Act.put, zq1, zq2, zq3]
        refine ztk 7 { dst := some 40, op := .move (.tmp 0), type := 23, pos := "find.go:33", after := #[{ on := 5, ground := .guard }], guard := some (5, true) } (.slice (some ⟨b, o, none⟩) n c) (Or.inl ⟨by rfl, by intro w hSw; clear hSw; go_simp⟩) hS0 ?_
        try simp only [Act.put, zq1, zq2, zq3]
        refine ztk 8 { dst := some 41, op := .move (.tmp 8), type := 3, pos := "find.go:33", after := #[{ on := 5, ground := .guard }], guard := some (5, true) } (.int .i64 t) (Or.inl ⟨by rfl, by intro w hSw; clear hSw; go_simp⟩) hS0 ?_
        try simp only [Act.put, zq1, zq2, zq3]
        refine ztk 9 { dst := some 42, op := .indexAddr 23 (.tmp 40) (.tmp 41), type := 0, pos := "find.go:33", after := #[{ on := 7, ground := .data }, { on := 8, ground := .data }, { on := 5, ground := .guard }], guard := some (5, true) } (.pointer (some ⟨b, o + t * 6, none⟩)) (Or.inl ⟨by rfl, by intro w hSw; clear hSw; go_simp⟩) hS0 ?_
        try simp only [Act.put, zq1, zq2, zq3]
        refine ztk 10 { dst := some 43, op := .load 93 (.tmp 42), type := 93, pos := "find.go:33", after := #[{ on := 9, ground := .data }, { on := 5, ground := .guard }], guard := some (5, true) } (.agg #[.int .i64 r1, .int .i64 r2, .int .i64 r3, .int .i64 r4, .int .i64 r5, .int .u64 r6]) (yieldsIf_load_mid (by rfl) _ _ rfl _ _ rfl _ _ (fun w h => rng_bel RW.out h) Tryz.underlying93 rfl info_p) hS0 ?_
        try simp only [Act.put, zq1, zq2, zq3]
        refine ztk 11 { dst := some 44, op := .load 93 (.tmp 4), type := 93, pos := "find.go:33", after := #[{ on := 5, ground := .guard }], guard := some (5, true) } (.agg #[.int .i64 x1, .int .i64 x2, .int .i64 x3, .int .i64 x4, .int .i64 x5, .int .u64 x6]) (yieldsIf_load_mid (by rfl) _ _ rfl _ _ rfl _ _ (fun w h => rng_bel (rngB (C := [.int .i64 x1, .int .i64 x2, .int .i64 x3, .int .i64 x4, .int .i64 x5, .int .u64 x6]) Q1.out) h) Tryz.underlying93 rfl info_p) hS0 ?_
        try simp only [Act.put, zq1, zq2, zq3]
        refine wpAnyH_ready (rs := [12]) (by kernel_rfl) (by simp) ?_
        refine AllReadyH.cons (o := { dst := some 45, op := .call { callee := .value (.tmp 39), args := #[.tmp 43, .tmp 44], argTypes := #[93, 93] }, type := 3, pos := "find.go:33", after := #[{ on := 6, ground := .data }, { on := 10, ground := .data }, { on := 11, ground := .data }, { on := 5, ground := .chain }, { on := 5, ground := .guard }], guard := some (5, true) }) rfl (fun K hK => ?_) AllReadyH.nil
        go_simp
        refine (CB.out _).mono ?_
        rintro e v1 ⟨rfl, kb⟩
        go_wp2_with fail
        refine hK.out _ _ (hS0.trans kb) (fun hS1 => ?_)
        clear hK K
        try simp only [Act.put, zq1, zq2, zq3]
        refine ztk 15 { dst := some 6, op := .assign (.tmp 33), type := 3, pos := "find.go:33", after := #[{ on := 0, ground := .data }, { on := 12, ground := .chain }, { on := 0, ground := .phase }, { on := 1, ground := .textOnly .lateStores }, { on := 2, ground := .textOnly .lateStores }, { on := 3, ground := .textOnly .lateStoresUnsure }, { on := 4, ground := .textOnly .lateStores }, { on := 5, ground := .textOnly .lateStores }, { on := 6, ground := .textOnly .lateStores }, { on := 7, ground := .textOnly .lateStores }, { on := 8, ground := .textOnly .lateStores }, { on := 9, ground := .textOnly .lateStores }, { on := 10, ground := .textOnly .lateStores }, { on := 11, ground := .textOnly .lateStores }, { on := 12, ground := .textOnly .lateStoresUnsure }, { on := 13, ground := .textOnly .lateStores }, { on := 14, ground := .textOnly .lateStores }], guard := none } (.int .i64 t) (Or.inl ⟨by rfl, by intro w hSw; clear hSw; go_simp⟩) hS1 ?_
        try simp only [Act.put, zq1, zq2, zq3]
        refine ztk 13 { dst := some 46, op := .binOp .eql 3 (.tmp 45) (.const (Value.int IntKind.i64 0)) 3, type := 4, pos := "find.go:33", after := #[{ on := 12, ground := .data }, { on := 5, ground := .guard }, { on := 15, ground := .gcOnly .lateStores }], guard := some (5, true) } (.bool (y == 0)) (Or.inl ⟨by rfl, by intro w hSw; clear hSw; go_simp⟩) hS1 ?_
        try simp only [Act.put, zq1, zq2, zq3]
        refine ztk 14 { dst := some 47, op := .pick (.tmp 38) (.tmp 46) (.const (Value.bool false)), type := 4, pos := "find.go:33", after := #[{ on := 5, ground := .data }, { on := 13, ground := .data }, { on := 15, ground := .gcOnly .lateStores }], guard := none } (.bool (y == 0)) (Or.inl ⟨by rfl, by intro w hSw; clear hSw; go_simp⟩) hS1 ?_
        try simp only [Act.put, zq1, zq2, zq3]
        refine ztk 16 { dst := some 7, op := .assign (.tmp 47), type := 4, pos := "find.go:33", after := #[{ on := 14, ground := .data }, { on := 15, ground := .chain }, { on := 0, ground := .phase }, { on := 1, ground := .phase }, { on := 2, ground := .phase }, { on := 3, ground := .phase }, { on := 4, ground := .phase }, { on := 5, ground := .phase }, { on := 6, ground := .phase }, { on := 7, ground := .phase }, { on := 8, ground := .phase }, { on := 9, ground := .phase }, { on := 10, ground := .phase }, { on := 11, ground := .phase }, { on := 12, ground := .phase }, { on := 13, ground := .phase }, { on := 14, ground := .phase }, { on := 15, ground := .phase }], guard := none } (.bool (y == 0)) (Or.inl ⟨by rfl, by intro w hSw; clear hSw; go_simp⟩) hS1 ?_
        try simp only [Act.put, zq1, zq2, zq3]
        refine wpAnyH_done (by kernel_rfl) ?_ _
        have HE := Lib.hid (HB.out.trans (hh.out.trans hS1))
        go_wp2_with fail
        go_ret2
        exact ⟨by rw [HI2.out, show decide (y = 0) = (y == 0) from Bool.eq_iff_iff.2 (by simp)]; rfl, HE.out⟩
      · have hI : I = false := HN.out (List.getElem?_eq_none (by rw [HL.out]; omega))
        subst hI
        have hlt3 : ¬ (t : Int) < n := by omega
        have hd : decide ((t : Int) < n) = false := decide_eq_false hlt3
        refine wp_region_held_drew (S := fun V => Bel wr V) (by kernel_rfl) (Bel.refl _).drew (fun hS0 => ?_)
        obtain ⟨w6, hw6⟩ : ∃ w6, World.drew wr = w6 := ⟨_, rfl⟩
        rw [hw6] at hS0 ⊢
        clear hw6
        refine ztk 0 { dst := some 33, op := .move (.tmp 8), type := 3, pos := "find.go:33", after := #[], guard := none } (.int .i64 t) (Or.inl ⟨by rfl, by intro w hSw; clear hSw; go_simp⟩) hS0 ?_
        try simp only [Act.put, zq1, zq2, zq3]
        refine ztk 1 { dst := some 34, op := .move (.tmp 8), type := 3, pos := "find.go:33", after := #[], guard := none } (.int .i64 t) (Or.inl ⟨by rfl, by intro w hSw; clear hSw; go_simp⟩) hS0 ?_
        try simp only [Act.put, zq1, zq2, zq3]
        refine ztk 2 { dst := some 35, op := .move (.tmp 0), type := 23, pos := "find.go:33", after := #[], guard := none } (.slice A n c) (Or.inl ⟨by rfl, by intro w hSw; clear hSw; go_simp⟩) hS0 ?_
        try simp only [Act.put, zq1, zq2, zq3]
        refine ztk 3 { dst := some 36, op := .call { callee := .builtin .len, args := #[.tmp 35], argTypes := #[23] }, type := 3, pos := "find.go:33", after := #[{ on := 2, ground := .data }], guard := none } (.int .i64 n) (Or.inl ⟨by rfl, by intro w hSw; clear hSw; go_simp⟩) hS0 ?_
        try simp only [Act.put, zq1, zq2, zq3]
        refine ztk 4 { dst := some 37, op := .binOp .lss 3 (.tmp 34) (.tmp 36) 3, type := 4, pos := "find.go:33", after := #[{ on := 1, ground := .data }, { on := 3, ground := .data }], guard := none } (.bool false) (Or.inl ⟨by rfl, by intro w hSw; clear hSw; go_simp⟩) hS0 ?_
        try simp only [Act.put, zq1, zq2, zq3]
        refine ztk 5 { dst := some 38, op := .move (.tmp 37), type := 4, pos := "find.go:33", after := #[{ on := 4, ground := .data }], guard := none } (.bool false) (Or.inl ⟨by rfl, by intro w hSw; clear hSw; go_simp⟩) hS0 ?_
        try simp only [Act.put, zq1, zq2, zq3]
        refine ztk 6 { dst := some 39, op := .move (.tmp 2), type := 219, pos := "find.go:33", after := #[{ on := 5, ground := .guard }], guard := some (5, true) } (undef) (Or.inr ⟨by rfl, by rfl⟩) hS0 ?_
        try simp only [Act.put, zq1, zq2, zq3]
        refine ztk 7 { dst := some 40, op := .move (.tmp 0), type := 23, pos := "find.go:33", after := #[{ on := 5, ground := .guard }], guard := some (5, true) } (undef) (Or.inr ⟨by rfl, by rfl⟩) hS0 ?_
        try simp only [Act.put, zq1, zq2, zq3]
        refine ztk 8 { dst := some 41, op := .move (.tmp 8), type := 3, pos := "find.go:33", after := #[{ on := 5, ground := .guard }], guard := some (5, true) } (undef) (Or.inr ⟨by rfl, by rfl⟩) hS0 ?_
        try simp only [Act.put, zq1, zq2, zq3]
        refine ztk 9 { dst := some 42, op := .indexAddr 23 (.tmp 40) (.tmp 41), type := 0, pos := "find.go:33", after := #[{ on := 7, ground := .data }, { on := 8, ground := .data }, { on := 5, ground := .guard }], guard := some (5, true) } (undef) (Or.inr ⟨by rfl, by rfl⟩) hS0 ?_
        try simp only [Act.put, zq1, zq2, zq3]
        refine ztk 10 { dst := some 43, op := .load 93 (.tmp 42), type := 93, pos := "find.go:33", after := #[{ on := 9, ground := .data }, { on := 5, ground := .guard }], guard := some (5, true) } (undef) (Or.inr ⟨by rfl, by rfl⟩) hS0 ?_
        try simp only [Act.put, zq1, zq2, zq3]
        refine ztk 11 { dst := some 44, op := .load 93 (.tmp 4), type := 93, pos := "find.go:33", after := #[{ on := 5, ground := .guard }], guard := some (5, true) } (undef) (Or.inr ⟨by rfl, by rfl⟩) hS0 ?_
        try simp only [Act.put, zq1, zq2, zq3]
        refine ztk 12 { dst := some 45, op := .call { callee := .value (.tmp 39), args := #[.tmp 43, .tmp 44], argTypes := #[93, 93] }, type := 3, pos := "find.go:33", after := #[{ on := 6, ground := .data }, { on := 10, ground := .data }, { on := 11, ground := .data }, { on := 5, ground := .chain }, { on := 5, ground := .guard }], guard := some (5, true) } (undef) (Or.inr ⟨by rfl, by rfl⟩) hS0 ?_
        try simp only [Act.put, zq1, zq2, zq3]
        refine ztk 15 { dst := some 6, op := .assign (.tmp 33), type := 3, pos := "find.go:33", after := #[{ on := 0, ground := .data }, { on := 12, ground := .chain }, { on := 0, ground := .phase }, { on := 1, ground := .textOnly .lateStores }, { on := 2, ground := .textOnly .lateStores }, { on := 3, ground := .textOnly .lateStoresUnsure }, { on := 4, ground := .textOnly .lateStores }, { on := 5, ground := .textOnly .lateStores }, { on := 6, ground := .textOnly .lateStores }, { on := 7, ground := .textOnly .lateStores }, { on := 8, ground := .textOnly .lateStores }, { on := 9, ground := .textOnly .lateStores }, { on := 10, ground := .textOnly .lateStores }, { on := 11, ground := .textOnly .lateStores }, { on := 12, ground := .textOnly .lateStoresUnsure }, { on := 13, ground := .textOnly .lateStores }, { on := 14, ground := .textOnly .lateStores }], guard := none } (.int .i64 t) (Or.inl ⟨by rfl, by intro w hSw; clear hSw; go_simp⟩) hS0 ?_
        try simp only [Act.put, zq1, zq2, zq3]
        refine ztk 13 { dst := some 46, op := .binOp .eql 3 (.tmp 45) (.const (Value.int IntKind.i64 0)) 3, type := 4, pos := "find.go:33", after := #[{ on := 12, ground := .data }, { on := 5, ground := .guard }, { on := 15, ground := .gcOnly .lateStores }], guard := some (5, true) } (undef) (Or.inr ⟨by rfl, by rfl⟩) hS0 ?_
        try simp only [Act.put, zq1, zq2, zq3]
        refine ztk 14 { dst := some 47, op := .pick (.tmp 38) (.tmp 46) (.const (Value.bool false)), type := 4, pos := "find.go:33", after := #[{ on := 5, ground := .data }, { on := 13, ground := .data }, { on := 15, ground := .gcOnly .lateStores }], guard := none } (.bool false) (Or.inl ⟨by rfl, by intro w hSw; clear hSw; go_simp⟩) hS0 ?_
        try simp only [Act.put, zq1, zq2, zq3]
        refine ztk 16 { dst := some 7, op := .assign (.tmp 47), type := 4, pos := "find.go:33", after := #[{ on := 14, ground := .data }, { on := 15, ground := .chain }, { on := 0, ground := .phase }, { on := 1, ground := .phase }, { on := 2, ground := .phase }, { on := 3, ground := .phase }, { on := 4, ground := .phase }, { on := 5, ground := .phase }, { on := 6, ground := .phase }, { on := 7, ground := .phase }, { on := 8, ground := .phase }, { on := 9, ground := .phase }, { on := 10, ground := .phase }, { on := 11, ground := .phase }, { on := 12, ground := .phase }, { on := 13, ground := .phase }, { on := 14, ground := .phase }, { on := 15, ground := .phase }], guard := none } (.bool false) (Or.inl ⟨by rfl, by intro w hSw; clear hSw; go_simp⟩) hS0 ?_
        try simp only [Act.put, zq1, zq2, zq3]
        refine wpAnyH_done (by kernel_rfl) ?_ _
        have HE := Lib.hid (HB.out.trans (hh.out.trans hS0))
        go_wp2_with fail
        go_ret2
        exact ⟨rfl, HE.out⟩

set_option maxRecDepth 10000 in
set_option maxHeartbeats 2000000 in
theorem followsP (A : Option Addr) (n c : Nat) (l : List R6) (x1 x2 x3 x4 x5 x6 : Int) (p : Option R6) (w : World) (h : RS cP w A n c l) (hn : n ≤ 1000000000) (hp : p = if n = 0 then none else l[n - 1]?) :
    Calls Tryz.prog 133 #[.slice A n c, .agg #[.int .i64 x1, .int .i64 x2, .int .i64 x3, .int .i64 x4, .int .i64 x5, .int .u64 x6], .func (.func 134) #[] #[]] w fun e w' => e = .returned (.bool (foll ordP p (x1, x2, x3, x4, x5, x6))) ∧ Bel w w' := by
  obtain ⟨W, hW⟩ : ∃ W, w.alloc (.cells #[.int .i64 x1, .int .i64 x2, .int .i64 x3, .int .i64 x4, .int .i64 x5, .int .u64 x6] 93) = W := ⟨_, rfl⟩
  have P0 := boxP x1 x2 x3 x4 x5 x6 w
  have B0 : Bel w W := by rw [← hW]; exact (Bel.refl _).alloc _
  rw [hW] at P0
  by_cases hn0 : n = 0
  · subst hn0
    obtain rfl : p = none := by rw [hp, if_pos rfl]
    have HB := Lib.hid B0
    clear h B0 hp
    go_enter Tryz.func133, Tryz.ntmps133
    go_upto_region 1 with fail
    obtain ⟨g, hg⟩ : ∃ g, w.heap.size = g := ⟨_, rfl⟩
    rw [hg]
    clear P0 hW hg
    refine wp_region_held_drew (S := fun V => Bel W V) (by kernel_rfl) (Bel.refl _).drew (fun hS0 => ?_)
    obtain ⟨w6, hw6⟩ : ∃ w6, World.drew W = w6 := ⟨_, rfl⟩
    rw [hw6] at hS0 ⊢
    clear hw6
    refine ztk 0 { dst := some 7, op := .move (.tmp 0), type := 23, pos := "find.go:38", after := #[], guard := none } (.slice A 0 c) (Or.inl ⟨by rfl, by intro w hSw; clear hSw; go_simp⟩) hS0 ?_
    try simp only [Act.put, zq1, zq2, zq3]
    refine ztk 1 { dst := some 8, op := .call { callee := .builtin .len, args := #[.tmp 7], argTypes := #[23] }, type := 3, pos := "find.go:38", after := #[{ on := 0, ground := .data }], guard := none } (.int .i64 0) (Or.inl ⟨by rfl, by intro w hSw; clear hSw; go_simp⟩) hS0 ?_
    try simp only [Act.put, zq1, zq2, zq3]
    refine ztk 2 { dst := some 9, op := .binOp .eql 3 (.tmp 8) (.const (Value.int IntKind.i64 0)) 3, type := 4, pos := "find.go:38", after := #[{ on := 1, ground := .data }], guard := none } (.bool true) (Or.inl ⟨by rfl, by intro w hSw; clear hSw; go_simp⟩) hS0 ?_
    try simp only [Act.put, zq1, zq2, zq3]
    refine ztk 3 { dst := some 10, op := .move (.tmp 9), type := 4, pos := "find.go:38", after := #[{ on := 2, ground := .data }], guard := none } (.bool true) (Or.inl ⟨by rfl, by intro w hSw; clear hSw; go_simp⟩) hS0 ?_
    try simp only [Act.put, zq1, zq2, zq3]
    refine ztk 4 { dst := some 11, op := .move (.tmp 2), type := 219, pos := "find.go:38", after := #[{ on := 3, ground := .guard }], guard := some (3, false) } (undef) (Or.inr ⟨by rfl, by rfl⟩) hS0 ?_
    try simp only [Act.put, zq1, zq2, zq3]
    refine ztk 5 { dst := some 12, op := .move (.tmp 0), type := 23, pos := "find.go:38", after := #[{ on := 3, ground := .guard }], guard := some (3, false) } (undef) (Or.inr ⟨by rfl, by rfl⟩) hS0 ?_
    try simp only [Act.put, zq1, zq2, zq3]
    refine ztk 6 { dst := some 13, op := .move (.tmp 0), type := 23, pos := "find.go:38", after := #[{ on := 3, ground := .guard }], guard := some (3, false) } (undef) (Or.inr ⟨by rfl, by rfl⟩) hS0 ?_
    try simp only [Act.put, zq1, zq2, zq3]
    refine ztk 7 { dst := some 14, op := .call { callee := .builtin .len, args := #[.tmp 13], argTypes := #[23] }, type := 3, pos := "find.go:38", after := #[{ on := 6, ground := .data }, { on := 3, ground := .guard }], guard := some (3, false) } (undef) (Or.inr ⟨by rfl, by rfl⟩) hS0 ?_
    try simp only [Act.put, zq1, zq2, zq3]
    refine ztk 8 { dst := some 15, op := .binOp .sub 3 (.tmp 14) (.const (Value.int IntKind.i64 1)) 3, type := 3, pos := "find.go:38", after := #[{ on := 7, ground := .data }, { on := 3, ground := .guard }], guard := some (3, false) } (undef) (Or.inr ⟨by rfl, by rfl⟩) hS0 ?_
    try simp only [Act.put, zq1, zq2, zq3]
    refine ztk 9 { dst := some 16, op := .indexAddr 23 (.tmp 12) (.tmp 15), type := 0, pos := "find.go:38", after := #[{ on := 5, ground := .data }, { on := 8, ground := .data }, { on := 3, ground := .guard }], guard := some (3, false) } (undef) (Or.inr ⟨by rfl, by rfl⟩) hS0 ?_
    try simp only [Act.put, zq1, zq2, zq3]
    refine ztk 10 { dst := some 17, op := .load 93 (.tmp 16), type := 93, pos := "find.go:38", after := #[{ on := 9, ground := .data }, { on := 3, ground := .guard }], guard := some (3, false) } (undef) (Or.inr ⟨by rfl, by rfl⟩) hS0 ?_
    try simp only [Act.put, zq1, zq2, zq3]
    refine ztk 11 { dst := some 18, op := .load 93 (.tmp 4), type := 93, pos := "find.go:38", after := #[{ on := 3, ground := .guard }], guard := some (3, false) } (undef) (Or.inr ⟨by rfl, by rfl⟩) hS0 ?_
    try simp only [Act.put, zq1, zq2, zq3]
    refine ztk 12 { dst := some 19, op := .call { callee := .value (.tmp 11), args := #[.tmp 17, .tmp 18], argTypes := #[93, 93] }, type := 3, pos := "find.go:38", after := #[{ on := 4, ground := .data }, { on := 10, ground := .data }, { on := 11, ground := .data }, { on := 3, ground := .chain }, { on := 3, ground := .guard }], guard := some (3, false) } (undef) (Or.inr ⟨by rfl, by rfl⟩) hS0 ?_
    try simp only [Act.put, zq1, zq2, zq3]
    refine ztk 13 { dst := some 20, op := .binOp .lss 3 (.tmp 19) (.const (Value.int IntKind.i64 0)) 3, type := 4, pos := "find.go:38", after := #[{ on := 12, ground := .data }, { on := 3, ground := .guard }], guard := some (3, false) } (undef) (Or.inr ⟨by rfl, by rfl⟩) hS0 ?_
    try simp only [Act.put, zq1, zq2, zq3]
    refine ztk 14 { dst := some 21, op := .pick (.tmp 10) (.const (Value.bool true)) (.tmp 20), type := 4, pos := "find.go:38", after := #[{ on := 3, ground := .data }, { on := 13, ground := .data }], guard := none } (.bool true) (Or.inl ⟨by rfl, by intro w hSw; clear hSw; go_simp⟩) hS0 ?_
    try simp only [Act.put, zq1, zq2, zq3]
    refine ztk 15 { dst := some 6, op := .assign (.tmp 21), type := 4, pos := "find.go:38", after := #[{ on := 14, ground := .data }, { on := 12, ground := .chain }, { on := 0, ground := .phase }, { on := 1, ground := .phase }, { on := 2, ground := .phase }, { on := 3, ground := .phase }, { on := 4, ground := .phase }, { on := 5, ground := .phase }, { on := 6, ground := .phase }, { on := 7, ground := .phase }, { on := 8, ground := .phase }, { on := 9, ground := .phase }, { on := 10, ground := .phase }, { on := 11, ground := .phase }, { on := 12, ground := .phase }, { on := 13, ground := .phase }, { on := 14, ground := .phase }], guard := none } (.bool true) (Or.inl ⟨by rfl, by intro w hSw; clear hSw; go_simp⟩) hS0 ?_
    try simp only [Act.put, zq1, zq2, zq3]
    refine wpAnyH_done (by kernel_rfl) ?_ _
    go_wp2_with fail
    go_ret
    exact ⟨rfl, HB.out.trans hS0⟩
  · obtain ⟨⟨r1, r2, r3, r4, r5, r6⟩, hr⟩ := h.get (i := n - 1) (by omega)
    obtain rfl : p = some (r1, r2, r3, r4, r5, r6) := by rw [hp, if_neg hn0, hr]
    obtain ⟨b, o, rfl, hb, hrow⟩ := (h.bel B0).at (by omega) hr
    have RW := Lib.hid (rowP hrow)
    have HB := Lib.hid B0
    obtain ⟨m, hm⟩ : ∃ m, n - 1 = m := ⟨_, rfl⟩
    have hm1 : (n : Int) - 1 = m := by omega
    have hn1 : (m : Int) < n := by omega
    have hwr : IntKind.i64.wrap (m : Int) = m := IntWalk.i64_in _ (by omega)
    have hnn : ((n : Int) == 0) = false := by rw [beq_eq_false_iff_ne]; omega
    rw [hm] at RW
    clear hrow hr h B0 hp hm hn0
    obtain ⟨y, hy⟩ : ∃ y, ordP (r1, r2, r3, r4, r5, r6) (x1, x2, x3, x4, x5, x6) = y := ⟨_, rfl⟩
    have CB := Lib.hid (fun V => byOwner r1 r2 r3 r4 r5 r6 x1 x2 x3 x4 x5 x6 V)
    show Calls _ _ _ _ fun e w' => e = .returned (.bool (decide (ordP (r1, r2, r3, r4, r5, r6) (x1, x2, x3, x4, x5, x6) < 0))) ∧ Bel w w'
    rw [hy] at CB ⊢
    clear hy
    go_enter Tryz.func133, Tryz.ntmps133
    go_upto_region 1 with fail
    obtain ⟨g, hg⟩ : ∃ g, w.heap.size = g := ⟨_, rfl⟩
    rw [hg]
    rw [hg] at P0
    have Q1 := Lib.hid P0
    clear P0 hW hg
    refine wp_region_held_drew (S := fun V => Bel W V) (by kernel_rfl) (Bel.refl _).drew (fun hS0 => ?_)
    obtain ⟨w6, hw6⟩ : ∃ w6, World.drew W = w6 := ⟨_, rfl⟩
    rw [hw6] at hS0 ⊢
    clear hw6
    refine ztk 0 { dst := some 7, op := .move (.tmp 0), type := 23, pos := "find.go:38", after := #[], guard := none } (.slice (some ⟨b, o, none⟩) n c) (Or.inl ⟨by rfl, by intro w hSw; clear hSw; go_simp⟩) hS0 ?_
    try simp only [Act.put, zq1, zq2, zq3]
    refine ztk 1 { dst := some 8, op := .call { callee := .builtin .len, args := #[.tmp 7], argTypes := #[23] }, type := 3, pos := "find.go:38", after := #[{ on := 0, ground := .data }], guard := none } (.int .i64 n) (Or.inl ⟨by rfl, by intro w hSw; clear hSw; go_simp⟩) hS0 ?_
    try simp only [Act.put, zq1, zq2, zq3]
    refine ztk 2 { dst := some 9, op := .binOp .eql 3 (.tmp 8) (.const (Value.int IntKind.i64 0)) 3, type := 4, pos := "find.go:38", after := #[{ on := 1, ground := .data }], guard := none } (.bool false) (Or.inl ⟨by rfl, by intro w hSw; clear hSw; go_simp⟩) hS0 ?_
    try simp only [Act.put, zq1, zq2, zq3]
    refine ztk 3 { dst := some 10, op := .move (.tmp 9), type := 4, pos := "find.go:38", after := #[{ on := 2, ground := .data }], guard := none } (.bool false) (Or.inl ⟨by rfl, by intro w hSw; clear hSw; go_simp⟩) hS0 ?_
    try simp only [Act.put, zq1, zq2, zq3]
    refine ztk 4 { dst := some 11, op := .move (.tmp 2), type := 219, pos := "find.go:38", after := #[{ on := 3, ground := .guard }], guard := some (3, false) } (.func (.func 134) #[] #[]) (Or.inl ⟨by rfl, by intro w hSw; clear hSw; go_simp⟩) hS0 ?_
    try simp only [Act.put, zq1, zq2, zq3]
    refine ztk 5 { dst := some 12, op := .move (.tmp 0), type := 23, pos := "find.go:38", after := #[{ on := 3, ground := .guard }], guard := some (3, false) } (.slice (some ⟨b, o, none⟩) n c) (Or.inl ⟨by rfl, by intro w hSw; clear hSw; go_simp⟩) hS0 ?_
    try simp only [Act.put, zq1, zq2, zq3]
    refine ztk 6 { dst := some 13, op := .move (.tmp 0), type := 23, pos := "find.go:38", after := #[{ on := 3, ground := .guard }], guard := some (3, false) } (.slice (some ⟨b, o, none⟩) n c) (Or.inl ⟨by rfl, by intro w hSw; clear hSw; go_simp⟩) hS0 ?_
    try simp only [Act.put, zq1, zq2, zq3]
    refine ztk 7 { dst := some 14, op := .call { callee := .builtin .len, args := #[.tmp 13], argTypes := #[23] }, type := 3, pos := "find.go:38", after := #[{ on := 6, ground := .data }, { on := 3, ground := .guard }], guard := some (3, false) } (.int .i64 n) (Or.inl ⟨by rfl, by intro w hSw; clear hSw; go_simp⟩) hS0 ?_
    try simp only [Act.put, zq1, zq2, zq3]
    refine ztk 8 { dst := some 15, op := .binOp .sub 3 (.tmp 14) (.const (Value.int IntKind.i64 1)) 3, type := 3, pos := "find.go:38", after := #[{ on := 7, ground := .data }, { on := 3, ground := .guard }], guard := some (3, false) } (.int .i64 m) (Or.inl ⟨by rfl, by intro w hSw; clear hSw; go_simp⟩) hS0 ?_
    try simp only [Act.put, zq1, zq2, zq3]
    refine ztk 9 { dst := some 16, op := .indexAddr 23 (.tmp 12) (.tmp 15), type := 0, pos := "find.go:38", after := #[{ on := 5, ground := .data }, { on := 8, ground := .data }, { on := 3, ground := .guard }], guard := some (3, false) } (.pointer (some ⟨b, o + m * 6, none⟩)) (Or.inl ⟨by rfl, by intro w hSw; clear hSw; go_simp⟩) hS0 ?_
    try simp only [Act.put, zq1, zq2, zq3]
    refine ztk 10 { dst := some 17, op := .load 93 (.tmp 16), type := 93, pos := "find.go:38", after := #[{ on := 9, ground := .data }, { on := 3, ground := .guard }], guard := some (3, false) } (.agg #[.int .i64 r1, .int .i64 r2, .int .i64 r3, .int .i64 r4, .int .i64 r5, .int .u64 r6]) (yieldsIf_load_mid (by rfl) _ _ rfl _ _ rfl _ _ (fun w h => rng_bel RW.out h) Tryz.underlying93 rfl info_p) hS0 ?_
    try simp only [Act.put, zq1, zq2, zq3]
    refine ztk 11 { dst := some 18, op := .load 93 (.tmp 4), type := 93, pos := "find.go:38", after := #[{ on := 3, ground := .guard }], guard := some (3, false) } (.agg #[.int .i64 x1, .int .i64 x2, .int .i64 x3, .int .i64 x4, .int .i64 x5, .int .u64 x6]) (yieldsIf_load_mid (by rfl) _ _ rfl _ _ rfl _ _ (fun w h => rng_bel (rngB (C := [.int .i64 x1, .int .i64 x2, .int .i64 x3, .int .i64 x4, .int .i64 x5, .int .u64 x6]) Q1.out) h) Tryz.underlying93 rfl info_p) hS0 ?_
    try simp only [Act.put, zq1, zq2, zq3]
    refine wpAnyH_ready (rs := [12]) (by kernel_rfl) (by simp) ?_
    refine AllReadyH.cons (o := { dst := some 19, op := .call { callee := .value (.tmp 11), args := #[.tmp 17, .tmp 18], argTypes := #[93, 93] }, type := 3, pos := "find.go:38", after := #[{ on := 4, ground := .data }, { on := 10, ground := .data }, { on := 11, ground := .data }, { on := 3, ground := .chain }, { on := 3, ground := .guard }], guard := some (3, false) }) rfl (fun K hK => ?_) AllReadyH.nil
    go_simp
    refine (CB.out _).mono ?_
    rintro e v1 ⟨rfl, kb⟩
    go_wp2_with fail
    refine hK.out _ _ (hS0.trans kb) (fun hS1 => ?_)
    clear hK K
    try simp only [Act.put, zq1, zq2, zq3]
    refine ztk 13 { dst := some 20, op := .binOp .lss 3 (.tmp 19) (.const (Value.int IntKind.i64 0)) 3, type := 4, pos := "find.go:38", after := #[{ on := 12, ground := .data }, { on := 3, ground := .guard }], guard := some (3, false) } (.bool (decide (y < 0))) (Or.inl ⟨by rfl, by intro w hSw; clear hSw; go_simp⟩) hS1 ?_
    try simp only [Act.put, zq1, zq2, zq3]
    refine ztk 14 { dst := some 21, op := .pick (.tmp 10) (.const (Value.bool true)) (.tmp 20), type := 4, pos := "find.go:38", after := #[{ on := 3, ground := .data }, { on := 13, ground := .data }], guard := none } (.bool (decide (y < 0))) (Or.inl ⟨by rfl, by intro w hSw; clear hSw; go_simp⟩) hS1 ?_
    try simp only [Act.put, zq1, zq2, zq3]
    refine ztk 15 { dst := some 6, op := .assign (.tmp 21), type := 4, pos := "find.go:38", after := #[{ on := 14, ground := .data }, { on := 12, ground := .chain }, { on := 0, ground := .phase }, { on := 1, ground := .phase }, { on := 2, ground := .phase }, { on := 3, ground := .phase }, { on := 4, ground := .phase }, { on := 5, ground := .phase }, { on := 6, ground := .phase }, { on := 7, ground := .phase }, { on := 8, ground := .phase }, { on := 9, ground := .phase }, { on := 10, ground := .phase }, { on := 11, ground := .phase }, { on := 12, ground := .phase }, { on := 13, ground := .phase }, { on := 14, ground := .phase }], guard := none } (.bool (decide (y < 0))) (Or.inl ⟨by rfl, by intro w hSw; clear hSw; go_simp⟩) hS1 ?_
    try simp only [Act.put, zq1, zq2, zq3]
    refine wpAnyH_done (by kernel_rfl) ?_ _
    go_wp2_with fail
    go_ret
    exact ⟨rfl, HB.out.trans hS1⟩
end Ho
end Go.Proofs.YtneajcoiemkfbaaGreat
end
