/-
  Texts of this claim, put together: Rw, RwEq13, Ho34, Ho35. What each one says, and under which conditions, stands ahead of it.
-/
import Derived.Lib.SliceRun
import Derived.WalkSpells
import Derived.Laws.AppendOwnNone
import Derived.Laws.AppendOwn
import Derived.RangeFuncWrites
import Derived.Laws.StructEq
import Derived.ChangeKeysEq
import Derived.Test.YtneajcoiemkfbaaGreatTk
import Derived.Test.YtneajcoiemkfbaaGreatCB
import Derived.Test.YtneajcoiemkfbaaGreatCK

section
/-
  Rows of cells in memory, of any width, over any type of rows: a slice that reads as a list of them, a list of one's own, a block of them. No condition.
-/
namespace Go.Proofs.YtneajcoiemkfbaaGreat
open Go.RowKit Go.Shelf
set_option linter.unusedVariables false
namespace Rw
open Kk Pm

/-- How a row is written in cells. -/
structure Row (α : Type) where
  k : α → List Value
  z : Nat
  len : ∀ r, (k r).length = z
  one : ∀ r, ∀ u ∈ k r, u.oneCell' = true
  pos : 0 < z
variable {α β : Type}
def flat (K : Row α) (l : List α) : List Value := l.flatMap K.k
theorem flat_len (K : Row α) : ∀ l, (flat K l).length = l.length * K.z
  | [] => (Nat.zero_mul _).symm
  | r :: l => by
    show (K.k r ++ flat K l).length = _
    rw [List.length_append, K.len, flat_len K l, List.length_cons, Nat.add_one_mul]; omega
theorem flat_one (K : Row α) : ∀ l, ∀ u ∈ flat K l, u.oneCell' = true := fun l u hu => by
  obtain ⟨r, _, h⟩ := List.mem_flatMap.1 hu
  exact K.one r u h
theorem flat_app (K : Row α) (a b : List α) : flat K (a ++ b) = flat K a ++ flat K b := by simp [flat]
theorem flat_at (K : Row α) : ∀ (l : List α) (i : Nat) (r : α), l[i]? = some r → ∀ j v, (K.k r)[j]? = some v → (flat K l)[i * K.z + j]? = some v
  | [], i, r, h, j, v, _ => by simp at h
  | y :: l, 0, r, h, j, v, hv => by
    simp at h; subst h
    have hj : j < K.z := by rw [← K.len y]; exact (List.getElem?_eq_some_iff.1 hv).1
    show (K.k y ++ flat K l)[0 * K.z + j]? = _
    rw [Nat.zero_mul, Nat.zero_add, List.getElem?_append_left (by rw [K.len]; exact hj)]
    exact hv
  | y :: l, i + 1, r, h, j, v, hv => by
    show (K.k y ++ flat K l)[(i + 1) * K.z + j]? = _
    rw [List.getElem?_append_right (by rw [K.len, Nat.add_one_mul]; omega), K.len, show (i + 1) * K.z + j - K.z = i * K.z + j by rw [Nat.add_one_mul]; omega]
    exact flat_at K l i r (by simpa using h) j v hv
theorem flat_take (K : Row α) (l : List α) (i : Nat) : (flat K l).take (i * K.z) = flat K (l.take i) := by
  rcases Nat.lt_or_ge i l.length with h | h
  · have e : l = l.take i ++ l.drop i := (List.take_append_drop i l).symm
    conv => lhs; rw [e]
    rw [flat_app, List.take_left' (by rw [flat_len K, List.length_take, Nat.min_eq_left (by omega)])]
  · rw [List.take_of_length_le (by rw [flat_len K]; exact Nat.mul_le_mul_right _ h), List.take_of_length_le h]
theorem flat_drop (K : Row α) (l : List α) (i : Nat) : (flat K l).drop (i * K.z) = flat K (l.drop i) := by
  rcases Nat.lt_or_ge i l.length with h | h
  · have e : l = l.take i ++ l.drop i := (List.take_append_drop i l).symm
    conv => lhs; rw [e]
    rw [flat_app, List.drop_left' (by rw [flat_len K, List.length_take, Nat.min_eq_left (by omega)])]
  · rw [List.drop_eq_nil_of_le (by rw [flat_len K]; exact Nat.mul_le_mul_right _ h), List.drop_eq_nil_of_le h]; rfl

/-- A slice that reads as rows. -/
structure RS (K : Row α) (w : World) (A : Option Addr) (n c : Nat) (l : List α) : Prop where
  len : l.length = n
  cap : n ≤ c
  nil : A = none → c = 0
  row : 0 < n → ∃ b o, A = some ⟨b, o, none⟩ ∧ b < w.heap.size ∧ ∀ i r, l[i]? = some r → w.rangeAt b (o + i * K.z) (K.k r)
section
variable {K : Row α} {w w' : World} {A : Option Addr} {n c : Nat} {l : List α}
theorem RS.bel (h : RS K w A n c l) (hb : Bel w w') : RS K w' A n c l :=
  ⟨h.len, h.cap, h.nil, fun hn => by
    obtain ⟨b, o, e, hlt, hc⟩ := h.row hn
    exact ⟨b, o, e, Nat.lt_of_lt_of_le hlt (Below.size hb), fun i r hi => rng_bel (hc i r hi) hb⟩⟩
theorem RS.kep {S : Nat → Prop} (h : RS K w A n c l) (hb : Kep S w w') (hs : ∀ x, A = some x → ¬ S x.block) : RS K w' A n c l :=
  ⟨h.len, h.cap, h.nil, fun hn => by
    obtain ⟨b, o, e, hlt, hc⟩ := h.row hn
    exact ⟨b, o, e, Nat.lt_of_lt_of_le hlt hb.size, fun i r hi => rng_kep (hc i r hi) hb (hs _ e)⟩⟩
theorem RS.nil_ : RS K w none 0 0 [] := ⟨rfl, Nat.le_refl _, fun _ => rfl, fun h => absurd h (by omega)⟩
theorem RS.part (h : RS K w A n c l) {m : Nat} (hm : m ≤ n) : RS K w A m c (l.take m) :=
  ⟨by rw [List.length_take, h.len]; omega, Nat.le_trans hm h.cap, h.nil, fun h0 => by
    obtain ⟨b, o, e, hlt, hc⟩ := h.row (by omega)
    refine ⟨b, o, e, hlt, fun i r hi => hc i r ?_⟩
    rw [List.getElem?_take] at hi
    split at hi
    · exact hi
    · cases hi⟩
theorem RS.get (h : RS K w A n c l) {i : Nat} (hi : i < n) : ∃ r, l[i]? = some r := by
  have : i < l.length := by rw [h.len]; exact hi
  exact ⟨l[i], List.getElem?_eq_getElem this⟩
/-- The cells of the row i. -/
theorem RS.at (h : RS K w A n c l) {i : Nat} (hi : i < n) {r : α} (hr : l[i]? = some r) : ∃ b o, A = some ⟨b, o, none⟩ ∧ b < w.heap.size ∧ w.rangeAt b (o + i * K.z) (K.k r) := by
  obtain ⟨b, o, e, hlt, hc⟩ := h.row (by omega)
  exact ⟨b, o, e, hlt, hc i r hr⟩
end
theorem rs_blk (K : Row α) {w : World} {g : Nat} {cur : Array Value} {t : TypeId} {l : List α} {n c : Nat} (hb : Blk w g cur t) (hl : l.length = n) (hnc : n ≤ c) (ht : cur.toList.take (n * K.z) = flat K l) : RS K w (some ⟨g, 0, none⟩) n c l :=
  ⟨hl, hnc, (fun h => by cases h), fun hn => ⟨g, 0, rfl, hb.lt, fun i r hi j v hv => by
    have h1 := flat_at K l i r hi j v hv
    rw [← ht, List.getElem?_take] at h1
    rw [Nat.zero_add]
    split at h1
    · exact hb.cell _ (by simpa using h1)
    · cases h1⟩⟩
theorem rs_own (K : Row α) {w : World} {base n : Nat} {e : TypeId} {v : Value} {l : List α} (h : w.ownsRow base e K.z v n (flat K l)) : ∃ A c, v = .slice A n c ∧ RS K w A n c l ∧ c ≤ maxLen ∧ ∀ x, A = some x → base ≤ x.block := by
  have hl : l.length = n := by have := h.1; rw [flat_len K] at this; exact Nat.eq_of_mul_eq_mul_right K.pos this
  rcases h.2 with ⟨rfl, rfl⟩ | ⟨g, cap, cur, rfl, hbg, hg, hnc, hm, hcs, ht⟩
  · have : l = [] := List.length_eq_zero_iff.1 hl
    subst this
    exact ⟨none, 0, rfl, RS.nil_, by unfold maxLen; omega, fun x h => by cases h⟩
  · exact ⟨_, _, rfl, rs_blk K hg hl hnc ht, hm, fun x h => by injection h with h; subst h; exact hbg⟩


theorem flat_inv (K : Row α) : ∀ (l : List α) (j : Nat) (u : Value), (flat K l)[j]? = some u → ∃ i t r, j = i * K.z + t ∧ l[i]? = some r ∧ (K.k r)[t]? = some u
  | [], j, u, h => by simp [flat] at h
  | y :: l, j, u, h => by
    replace h : (K.k y ++ flat K l)[j]? = some u := h
    rcases Nat.lt_or_ge j K.z with hj | hj
    · rw [List.getElem?_append_left (by rw [K.len]; exact hj)] at h
      exact ⟨0, j, y, by rw [Nat.zero_mul, Nat.zero_add], rfl, h⟩
    · rw [List.getElem?_append_right (by rw [K.len]; exact hj), K.len] at h
      obtain ⟨i, t, r, h1, h2, h3⟩ := flat_inv K l (j - K.z) u h
      exact ⟨i + 1, t, r, by rw [Nat.add_one_mul]; omega, by simpa using h2, h3⟩
theorem add_at (b o j : Nat) : (⟨b, o, none⟩ : Addr).add j = ⟨b, o + j, none⟩ := by
  unfold Addr.add
  by_cases h : j = 0
  · simp [h]
  · simp [h]
theorem rs_news (K : Row α) {w : World} {A : Addr} {n c : Nat} {l : List α} (h : RS K w (some A) n c l) : ∀ j u, (flat K l)[j]? = some u → w.cell? (A.add j) = some u := fun j u hj => by
  obtain ⟨i, t, r, rfl, hi, ht⟩ := flat_inv K l j u hj
  have hn : i < n := by have := (List.getElem?_eq_some_iff.1 hi).1; have := h.len; omega
  obtain ⟨b, o, e, _, hc⟩ := h.at hn hi
  injection e with e
  subst e
  rw [add_at, ← Nat.add_assoc]
  exact hc t u ht
/-- A row of one's own. -/
def OwnR (K : Row α) (t : TypeId) (w : World) (base : Nat) (v : Value) (l : List α) : Prop := w.ownsRow base t K.z v l.length (flat K l)
theorem OwnR.rs (K : Row α) {t : TypeId} {w : World} {base : Nat} {v : Value} {l : List α} (h : OwnR K t w base v l) : ∃ A c, v = .slice A l.length c ∧ RS K w A l.length c l ∧ c ≤ maxLen ∧ ∀ x, A = some x → base ≤ x.block := rs_own K h
theorem OwnR.bel {K : Row α} {t : TypeId} {w w' : World} {base : Nat} {v : Value} {l : List α} (h : OwnR K t w base v l) (hb : Bel w w') : OwnR K t w' base v l := Kk.owns_bel h hb
theorem OwnR.nil_ (K : Row α) (t : TypeId) (w : World) (base : Nat) : OwnR K t w base (.slice none 0 0) [] := World.ownsRow_nil w base t K.z


theorem no_cells {w : World} {a : Addr} {v : Value} {o : Obj} (h : w.cell? a = some v) (ho : w.heap[a.block]? = some o) (hc : o.isCells = false) : False := by
  unfold World.cell? at h
  rw [ho] at h
  cases o <;> simp [Obj.isCells] at hc h
theorem rng_grown {W W' : World} {row : Option Nat} {b o : Nat} {Y : List Value} (h : W.rangeAt b o Y) (hg : W.grownBy W' row) (hr : ∀ r, row = some r → ∃ o : Obj, W.heap[r]? = some o ∧ o.isCells = false) : W'.rangeAt b o Y := fun j v hv =>
  hg.cell (h j v hv) (fun e => by
    obtain ⟨ob, h1, h2⟩ := hr b e.symm
    exact no_cells (h j v hv) h1 h2)
theorem blk_grown {W W' : World} {row : Option Nat} {b : Nat} {cs : Array Value} {t : TypeId} (h : Blk W b cs t) (hg : W.grownBy W' row) (hr : ∀ r, row = some r → ∃ o : Obj, W.heap[r]? = some o ∧ o.isCells = false) : Blk W' b cs t :=
  (hg.block b h.lt (fun e => by
    obtain ⟨ob, h1, h2⟩ := hr b e.symm
    have h3 := (show W.heap[b]? = _ from h).symm.trans h1
    injection h3 with h3
    rw [← h3] at h2
    cases h2)).trans h
theorem RS.grown {K : Row α} {W W' : World} {A : Option Addr} {n c : Nat} {l : List α} {row : Option Nat} (h : RS K W A n c l) (hg : W.grownBy W' row) (hr : ∀ r, row = some r → ∃ o : Obj, W.heap[r]? = some o ∧ o.isCells = false) : RS K W' A n c l :=
  ⟨h.len, h.cap, h.nil, fun hn => by
    obtain ⟨b, o, e, hlt, hc⟩ := h.row hn
    exact ⟨b, o, e, Nat.lt_of_lt_of_le hlt hg.size, fun i r hi => rng_grown (hc i r hi) hg hr⟩⟩


theorem RS.kep2 {K : Row α} {w w' : World} {A : Option Addr} {n c : Nat} {l : List α} {S : Nat → Prop} (h : RS K w A n c l) (hb : Kep S w w') (hs : 0 < n → ∀ x, A = some x → ¬ S x.block) : RS K w' A n c l :=
  ⟨h.len, h.cap, h.nil, fun hn => by
    obtain ⟨b, o, e, hlt, hc⟩ := h.row hn
    exact ⟨b, o, e, Nat.lt_of_lt_of_le hlt hb.size, fun i r hi => rng_kep (hc i r hi) hb (hs hn _ e)⟩⟩

theorem flat_set (K : Row α) (o : Nat) (v : Value) (ho : o < K.z) : ∀ (l : List α) (i : Nat) (r r' : α), l[i]? = some r → K.k r' = (K.k r).set o v → (flat K l).set (i * K.z + o) v = flat K (l.set i r')
  | [], i, r, r', h, _ => by simp at h
  | y :: l, 0, r, r', h, he => by
    simp at h; subst h
    show (K.k y ++ flat K l).set (0 * K.z + o) v = K.k r' ++ flat K l
    rw [List.set_append_left _ _ (by rw [K.len, Nat.zero_mul]; omega), Nat.zero_mul, Nat.zero_add, he]
  | y :: l, i + 1, r, r', h, he => by
    show (K.k y ++ flat K l).set ((i + 1) * K.z + o) v = K.k y ++ flat K (l.set i r')
    rw [List.set_append_right _ _ (by rw [K.len, Nat.add_one_mul]; omega), K.len, show (i + 1) * K.z + o - K.z = i * K.z + o by rw [Nat.add_one_mul]; omega, flat_set K o v ho l i r r' (by simpa using h) he]
/-- A row in a block, known whole. -/
structure RB (K : Row α) (t : TypeId) (w : World) (g : Nat) (l : List α) (cap : Nat) : Prop where
  blk : ∃ cur, Blk w g cur t ∧ cur.toList.take (l.length * K.z) = flat K l ∧ cur.size = cap * K.z
  cap : l.length ≤ cap
section
variable {K : Row α} {t : TypeId} {w w' : World} {g cap : Nat} {l : List α}
theorem RB.rs (h : RB K t w g l cap) : RS K w (some ⟨g, 0, none⟩) l.length cap l := by
  obtain ⟨cur, h1, h2, h3⟩ := h.blk
  exact rs_blk K h1 rfl h.cap h2
theorem RB.bel (h : RB K t w g l cap) (hb : Bel w w') : RB K t w' g l cap := by
  obtain ⟨cur, h1, h2, h3⟩ := h.blk
  exact ⟨⟨cur, h1.bel hb, h2, h3⟩, h.cap⟩
theorem RB.kep {S : Nat → Prop} (h : RB K t w g l cap) (hb : Kep S w w') (hs : ¬ S g) : RB K t w' g l cap := by
  obtain ⟨cur, h1, h2, h3⟩ := h.blk
  exact ⟨⟨cur, h1.kep hb hs, h2, h3⟩, h.cap⟩
theorem RB.frozen (h : RB K t w g l cap) (i : Nat) : w.frozen? ⟨g, i, none⟩ = false := by
  obtain ⟨cur, h1, _⟩ := h.blk
  exact h1.frozen i
theorem RB.set (h : RB K t w g l cap) {i o : Nat} (ho : o < K.z) {r r' : α} {v : Value} (hr : l[i]? = some r) (he : K.k r' = (K.k r).set o v) : RB K t (w.setCell ⟨g, i * K.z + o, none⟩ v) g (l.set i r') cap := by
  obtain ⟨cur, h1, h2, h3⟩ := h.blk
  have hi := (List.getElem?_eq_some_iff.1 hr).1
  refine ⟨⟨_, h1.set _ v, ?_, by simpa using h3⟩, by simpa using h.cap⟩
  rw [List.length_set, Array.toList_setIfInBounds, List.take_set, h2, flat_set K o v ho l i r r' hr he]
theorem RB.grown (h : RB K t w g l cap) {row : Option Nat} (hg : w.grownBy w' row) (hr : ∀ r, row = some r → ∃ o : Obj, w.heap[r]? = some o ∧ o.isCells = false) : RB K t w' g l cap := by
  obtain ⟨cur, h1, h2, h3⟩ := h.blk
  exact ⟨⟨cur, blk_grown h1 hg hr, h2, h3⟩, h.cap⟩
end
theorem rb_own (K : Row α) {t : TypeId} {w : World} {base : Nat} {v : Value} {l : List α} (h : OwnR K t w base v l) (hl : 0 < l.length) : ∃ g cap, v = .slice (some ⟨g, 0, none⟩) l.length cap ∧ base ≤ g ∧ RB K t w g l cap ∧ cap ≤ maxLen := by
  rcases h.2 with ⟨_, h0⟩ | ⟨g, cap, cur, e, hbg, hg, hnc, hm, hcs, ht⟩
  · omega
  · exact ⟨g, cap, e, hbg, ⟨⟨cur, hg, ht, hcs⟩, hnc⟩, hm⟩


theorem OwnR.mono {K : Row α} {t : TypeId} {w : World} {b b' : Nat} {v : Value} {l : List α} (h : OwnR K t w b v l) (hb : b' ≤ b) : OwnR K t w b' v l := Kk.owns_mono h hb

theorem own_blk {K : Row α} {t : TypeId} {w : World} {base b : Nat} {v : Value} {l : List α} (h : OwnR K t w base v l) (hb : v.ownBlock = some b) : ∃ C, Blk w b C t := by
  rcases h.2 with ⟨rfl, _⟩ | ⟨g, cap, cur, rfl, _, hg, _⟩
  · cases hb
  · obtain rfl : g = b := Option.some.inj hb
    exact ⟨_, hg⟩
theorem blk_ty {w : World} {b : Nat} {C D : Array Value} {t u : TypeId} (h : Blk w b C t) (h' : Blk w b D u) : t = u := by
  have e := Option.some.inj (Eq.trans (Eq.symm h) h')
  injection e
theorem own_ne {K : Row α} {t u : TypeId} {w : World} {base b : Nat} {v : Value} {l : List α} {C : Array Value} (h : OwnR K t w base v l) (hb : Blk w b C u) (hne : t ≠ u) : ¬ v.ownBlock = some b := fun e => by
  obtain ⟨D, hD⟩ := own_blk h e
  exact hne (blk_ty hD hb)
theorem own_ne2 {K : Row α} {K' : Row β} {t u : TypeId} {w : World} {b b' : Nat} {v v' : Value} {l : List α} {l' : List β} (h : OwnR K t w b v l) (h' : OwnR K' u w b' v' l') (hne : t ≠ u) : ∀ i, v.ownBlock = some i → ¬ v'.ownBlock = some i := fun i e e' => by
  obtain ⟨D, hD⟩ := own_blk h' e'
  exact own_ne h hD hne e
theorem OwnR.kep {K : Row α} {t : TypeId} {w w' : World} {base : Nat} {v : Value} {l : List α} {S : Nat → Prop} (h : OwnR K t w base v l) (hk : Kep S w w') (hs : ∀ i, v.ownBlock = some i → ¬ S i) : OwnR K t w' base v l := Kep.owns hk hs h
theorem OwnR.one {K : Row α} {t : TypeId} {w : World} {base : Nat} {v : Value} {l : List α} (h : OwnR K t w base v l) : v.oneCell' = true := by
  obtain ⟨A, c, rfl, _⟩ := h.rs K
  rfl

theorem own_ge {K : Row α} {t : TypeId} {w : World} {base b : Nat} {v : Value} {l : List α} (h : OwnR K t w base v l) (hb : v.ownBlock = some b) : base ≤ b := by
  rcases h.2 with ⟨rfl, _⟩ | ⟨g, cap, cur, rfl, hge, _⟩
  · cases hb
  · obtain rfl : g = b := Option.some.inj hb
    exact hge

/-- What is left behind the first i rows. -/
theorem RS.drop {K : Row α} {w : World} {A : Option Addr} {n c : Nat} {l : List α} (h : RS K w A n c l) {i : Nat} (hi : i ≤ n) : RS K w (A.map (fun a => a.add (i * K.z))) (n - i) (c - i) (l.drop i) :=
  ⟨by rw [List.length_drop, h.len], Nat.sub_le_sub_right h.cap i, fun hA => by
    have : c = 0 := h.nil (by cases A with | none => rfl | some a => cases hA)
    omega, fun h0 => by
    obtain ⟨b, o, e, hlt, hc⟩ := h.row (by omega)
    subst e
    refine ⟨b, o + i * K.z, by rw [Option.map_some, add_at], hlt, fun j r hj => ?_⟩
    rw [List.getElem?_drop] at hj
    have := hc _ r hj
    rw [Nat.add_mul, ← Nat.add_assoc] at this
    exact this⟩
theorem OwnR.slice {K : Row α} {t : TypeId} {w : World} {base : Nat} {v : Value} {l : List α} (h : OwnR K t w base v l) : ∃ A c, v = .slice A l.length c ∧ RS K w A l.length c l := by
  obtain ⟨A, c, h1, h2, _⟩ := OwnR.rs K h
  exact ⟨A, c, h1, h2⟩
theorem info_parts {P : Program} {t : TypeId} {z : Value} {s b : Nat} (h : (P.info? t).map (fun i => (i.zero, i.size, i.bytes)) = some (some z, s, b)) : ∃ i, P.info? t = some i ∧ i.zero = some z ∧ i.size = s ∧ i.bytes = b := by
  cases hi : P.info? t with
  | none => rw [hi] at h; cases h
  | some i =>
    rw [hi] at h
    simp at h
    exact ⟨i, rfl, h.1, h.2.1, h.2.2⟩
/-- One or more rows behind a list of one's own. -/
theorem append_R (K : Row α) {P : Program} {w : World} {ops : Array Oper} {rest : List Oper} {o : Oper} {a : Act} {Q : Exit → Act → World → Prop} (hgd : o.guard = none) (s x : Operand) (ty t : TypeId)
    (ho : o.op = .call { callee := .builtin .append, args := #[s, x], argTypes := #[ty, ty] }) (hu : P.underlying ty = some (.slice t)) {zs : Array Value} {bytes : Nat} (hz : (P.info? t).map (fun i => (i.zero, i.size, i.bytes)) = some (some (.agg zs), K.z, bytes)) (hzs : zs.size = K.z) (hby : bytes ≤ 1000)
    (base : Nat) (v : Value) (l : List α) (hs : a.eval s = v) (hown : OwnR K t w base v l) (A : Option Addr) (m c : Nat) (l2 : List α) (hx : a.eval x = .slice A m c) (hi : RS K w A m c l2)
    (hm : l.length + m ≤ 2000000000) (hb : base ≤ w.heap.size)
    (h : ∀ v' w', OwnR K t w' base v' (l ++ l2) → w.grownBy w' v.ownBlock → wpList P ops Q rest (a.put o.dst v') w') : wpList P ops Q (o :: rest) a w := by
  obtain ⟨i0, h1, hz0, hz1, hz2⟩ := info_parts hz
  cases A with
  | none =>
    obtain rfl : c = 0 := hi.nil rfl
    obtain rfl : m = 0 := by have := hi.cap; omega
    have hz : l2 = [] := List.length_eq_zero_iff.1 hi.len
    subst hz
    refine wpList_append_own_none hgd s x ty ho base t i0 K.z hu h1 v l.length (flat K l) hs hown hx ?_
    exact h v w (by simpa using hown) ⟨rfl, rfl, rfl, Nat.le_refl _, fun _ _ _ => rfl⟩
  | some ad =>
    have hk : (l.length + m) * bytes ≤ 2000000000 * 1000 := Nat.mul_le_mul hm hby
    refine wpList_append_own w hgd s x ty ho base t i0 (.agg zs) K.z bytes hu h1 hz0 hz1 hz2 hzs K.pos v l.length (flat K l) hs hown ad m c (flat K l2) hx (by rw [flat_len K, hi.len]) (rs_news K hi) (flat_one K l2) (by unfold maxLen; omega) (by omega) hb ?_
    intro v' w' h2 h3 _
    refine h v' w' ?_ h3
    unfold OwnR
    rw [flat_app, List.length_append, hi.len]
    exact h2
theorem own_empty (K : Row α) (t : TypeId) (w : World) : OwnR K t (w.alloc (.cells #[] t)) w.heap.size (.slice (some ⟨w.heap.size, 0, none⟩) 0 0) [] :=
  World.ownsRow_made w #[] 0 (Nat.le_refl _) (Nat.zero_le _) (by rw [Nat.zero_mul]; rfl)
/-- A row of one, in a block of its own. -/
theorem rs_one (K : Row α) {w : World} {g : Nat} {t : TypeId} {r : α} (h : Blk w g (K.k r).toArray t) : RS K w (some ⟨g, 0, none⟩) 1 1 [r] :=
  rs_blk K h rfl (Nat.le_refl _) (by
    show (K.k r).toArray.toList.take (1 * K.z) = K.k r ++ []
    rw [List.append_nil, Nat.one_mul]
    exact List.take_of_length_le (by rw [← K.len r]; exact Nat.le_refl _))
/-- A load of a row, whether it is guarded or not. -/
theorem load_g {P : Program} {ops : Array Oper} {rest : List Oper} {o : Oper} {a : Act} {w : World} {Q : Exit → Act → World → Prop} (hw : Region.wanted o (yielded ops a.tmps) = true) (ty : TypeId) (x : Operand) (ho : o.op = .load ty x)
    (b q : Nat) (hx : a.eval x = .pointer (some ⟨b, q, none⟩)) (cs : List Value) (d : TypeDesc) (hc : w.rangeAt b q cs)
    (hu : P.underlying ty = some d) (hd : d.isRow = true) (hi : (P.info? ty).map (·.size) = some cs.length)
    (h : wpList P ops Q rest (a.put o.dst (.agg cs.toArray)) w) : wpList P ops Q (o :: rest) a w :=
  wpList_step fun K hK => by
    rw [if_pos hw]
    exact wp_load_mid ty x ho b q hx cs d hc hu hd hi (hK _ _ h)
end Rw
end Go.Proofs.YtneajcoiemkfbaaGreat
end

section
/-
  What == and != of structs of integers tell, field by field. No condition.
-/
namespace Go.Proofs.YtneajcoiemkfbaaGreat
open Go.RowKit Go.Shelf
set_option linter.unusedVariables false
set_option linter.unusedSimpArgs false
namespace Rw

theorem eqF_cons {P : Program} {d : Nat} {xs ys : Array Value} {f : Field} {fs : List Field} {W : World} {a b : Value} {r s : Bool} (hn : f.name ≠ "_") (h1 : (part f.type xs f.offset).run P W = .ok a W) (h2 : (part f.type ys f.offset).run P W = .ok b W)
    (h3 : (Op.equalIn d f.type a b).run P W = .ok r W) (h4 : (Op.eqFields d xs ys fs).run P W = .ok s W) : (Op.eqFields d xs ys (f :: fs)).run P W = .ok (r && s) W := by
  cases r <;> simp [Op.eqFields, hn, h1, h2, h3, h4, Sem.run_ite]
theorem eqF_nil {P : Program} {d : Nat} {xs ys : Array Value} {W : World} : (Op.eqFields d xs ys []).run P W = .ok true W := rfl
theorem partI {P : Program} {t : TypeId} {q : IntKind} (hu : P.underlying t = some (.int q)) {xs : Array Value} {i : Nat} {v : Value} (hx : xs[i]? = some v) (w : World) : (part t xs i).run P w = .ok v w := by
  simp [part, isAgg, run_underlying hu, hx]
theorem partS {P : Program} {t : TypeId} {fs : Array Field} (hu : P.underlying t = some (.struct fs)) {z : Nat} (hz : (P.info? t).map (·.size) = some z) {xs ys : Array Value} {i : Nat} (he : xs.extract i (i + z) = ys) (w : World) : (part t xs i).run P w = .ok (.agg ys) w := by
  cases hq : P.info? t with
  | none => rw [hq] at hz; cases hz
  | some k =>
    rw [hq] at hz
    simp at hz
    subst hz
    simp [part, isAgg, run_underlying hu, sizeOf, typeInfo, hq, he]
theorem exec_eql {P : Program} {a : Act} {o : Oper} {t t2 : TypeId} {x y : Operand} (ho : o.op = .binOp .eql t x y t2) (xs ys : Array Value) (hx : a.eval x = .agg xs) (hy : a.eval y = .agg ys) (hm : P.eqGuardType P.depth t = false)
    {b : Bool} (hb : ∀ w, (binOp .eql t (.agg xs) (.agg ys)).run P w = .ok (.bool b) w) (w : World) : (execOp a.eval o).run P w = .ok (.value (.bool b)) w := by
  unfold execOp
  simp only [ho, hx, hy, Sem.run_bind, run_eqGuard_agg (hm := hm), Result.andThen_ok, hb, Sem.run_pure]
/-- An operation that yields a value, whether it is guarded or not, as an arm of a walk. -/
theorem wpList_val {P : Program} {ops : Array Oper} {rest : List Oper} {o : Oper} {a : Act} {w : World} {Q : Exit → Act → World → Prop} (hw : Region.wanted o (yielded ops a.tmps) = true) (V : Value) (hr : ∀ w, (execOp a.eval o).run P w = .ok (.value V) w)
    (h : wpList P ops Q rest (a.put o.dst V) w) : wpList P ops Q (o :: rest) a w :=
  wpList_step fun K hK => by
    rw [if_pos hw]
    unfold Oper.wp
    rw [hr]
    exact hK _ _ h

theorem eqIn_stamp (d : Nat) (a0 a1 a2 a3 b0 b1 b2 b3 : Int) (W : World) : (Op.equalIn (d + 2) 37 (.agg #[Value.int .i64 a0, Value.int .i64 a1, Value.int .i64 a2, Value.int .i64 a3]) (.agg #[Value.int .i64 b0, Value.int .i64 b1, Value.int .i64 b2, Value.int .i64 b3])).run Tryz.prog W = .ok ((a0 == b0) && ((a1 == b1) && ((a2 == b2) && ((a3 == b3) && true)))) W := by
  have hS : Tryz.prog.underlying 37 = some (.struct (Tryz.prog.fieldsOf 37)) := by kernel_rfl
  rw [show d + 2 = (d + 1) + 1 from rfl, run_equalIn_struct W (d + 1) _ _ _ hS (by kernel_rfl)]
  simp only [Program.fieldsOf, Tryz.underlying37]
  exact eqF_cons (by decide) (partI Tryz.underlying3 rfl _) (partI Tryz.underlying3 rfl _) (run_equalIn_int W _ _ _ _ _ _ Tryz.underlying3) (eqF_cons (by decide) (partI Tryz.underlying3 rfl _) (partI Tryz.underlying3 rfl _) (run_equalIn_int W _ _ _ _ _ _ Tryz.underlying3) (eqF_cons (by decide) (partI Tryz.underlying3 rfl _) (partI Tryz.underlying3 rfl _) (run_equalIn_int W _ _ _ _ _ _ Tryz.underlying3) (eqF_cons (by decide) (partI Tryz.underlying3 rfl _) (partI Tryz.underlying3 rfl _) (run_equalIn_int W _ _ _ _ _ _ Tryz.underlying3) (eqF_nil))))
theorem eq_stamp (a0 a1 a2 a3 b0 b1 b2 b3 : Int) : ((a0 == b0) && ((a1 == b1) && ((a2 == b2) && ((a3 == b3) && true)))) = decide ((a0, a1, a2, a3) = (b0, b1, b2, b3)) := by
  rw [Bool.eq_iff_iff]
  simp only [Bool.and_eq_true, beq_iff_eq, Prod.mk.injEq, and_assoc, and_true, decide_eq_true_eq]
theorem eqIn_pool (d : Nat) (a0 a1 b0 b1 : Int) (W : World) : (Op.equalIn (d + 2) 46 (.agg #[Value.int .u64 a0, Value.int .u64 a1]) (.agg #[Value.int .u64 b0, Value.int .u64 b1])).run Tryz.prog W = .ok ((a0 == b0) && ((a1 == b1) && true)) W := by
  have hS : Tryz.prog.underlying 46 = some (.struct (Tryz.prog.fieldsOf 46)) := by kernel_rfl
  rw [show d + 2 = (d + 1) + 1 from rfl, run_equalIn_struct W (d + 1) _ _ _ hS (by kernel_rfl)]
  simp only [Program.fieldsOf, Tryz.underlying46]
  exact eqF_cons (by decide) (partI Tryz.underlying32 rfl _) (partI Tryz.underlying32 rfl _) (run_equalIn_int W _ _ _ _ _ _ Tryz.underlying32) (eqF_cons (by decide) (partI Tryz.underlying32 rfl _) (partI Tryz.underlying32 rfl _) (run_equalIn_int W _ _ _ _ _ _ Tryz.underlying32) (eqF_nil))
theorem eqIn_class (d : Nat) (a0 a1 a2 a3 a4 a5 b0 b1 b2 b3 b4 b5 : Int) (W : World) : (Op.equalIn (d + 3) 90 (.agg #[Value.int .i64 a0, Value.int .i64 a1, Value.int .i64 a2, Value.int .i64 a3, Value.int .u64 a4, Value.int .u64 a5]) (.agg #[Value.int .i64 b0, Value.int .i64 b1, Value.int .i64 b2, Value.int .i64 b3, Value.int .u64 b4, Value.int .u64 b5])).run Tryz.prog W = .ok (((a0 == b0) && ((a1 == b1) && ((a2 == b2) && ((a3 == b3) && true)))) && (((a4 == b4) && ((a5 == b5) && true)) && true)) W := by
  have hS : Tryz.prog.underlying 90 = some (.struct (Tryz.prog.fieldsOf 90)) := by kernel_rfl
  rw [show d + 3 = (d + 2) + 1 from rfl, run_equalIn_struct W (d + 2) _ _ _ hS (by kernel_rfl)]
  simp only [Program.fieldsOf, Tryz.underlying90]
  exact eqF_cons (by decide) (partS (ys := #[Value.int .i64 a0, Value.int .i64 a1, Value.int .i64 a2, Value.int .i64 a3]) (z := 4) Tryz.underlying37 (by kernel_rfl) rfl _) (partS (ys := #[Value.int .i64 b0, Value.int .i64 b1, Value.int .i64 b2, Value.int .i64 b3]) (z := 4) Tryz.underlying37 (by kernel_rfl) rfl _) (eqIn_stamp (d + 0) a0 a1 a2 a3 b0 b1 b2 b3 W) (eqF_cons (by decide) (partS (ys := #[Value.int .u64 a4, Value.int .u64 a5]) (z := 2) Tryz.underlying46 (by kernel_rfl) rfl _) (partS (ys := #[Value.int .u64 b4, Value.int .u64 b5]) (z := 2) Tryz.underlying46 (by kernel_rfl) rfl _) (eqIn_pool (d + 0) a4 a5 b4 b5 W) (eqF_nil))
theorem eq_class (a0 a1 a2 a3 a4 a5 b0 b1 b2 b3 b4 b5 : Int) : (((a0 == b0) && ((a1 == b1) && ((a2 == b2) && ((a3 == b3) && true)))) && (((a4 == b4) && ((a5 == b5) && true)) && true)) = decide ((a0, a1, a2, a3, a4, a5) = (b0, b1, b2, b3, b4, b5)) := by
  rw [Bool.eq_iff_iff]
  simp only [Bool.and_eq_true, beq_iff_eq, Prod.mk.injEq, and_assoc, and_true, decide_eq_true_eq]
theorem eql_class (a0 a1 a2 a3 a4 a5 b0 b1 b2 b3 b4 b5 : Int) (W : World) : (binOp .eql 90 (.agg #[Value.int .i64 a0, Value.int .i64 a1, Value.int .i64 a2, Value.int .i64 a3, Value.int .u64 a4, Value.int .u64 a5]) (.agg #[Value.int .i64 b0, Value.int .i64 b1, Value.int .i64 b2, Value.int .i64 b3, Value.int .u64 b4, Value.int .u64 b5])).run Tryz.prog W = .ok (.bool (decide ((a0, a1, a2, a3, a4, a5) = (b0, b1, b2, b3, b4, b5)))) W := by
  rw [run_eql_struct, show (10000 : Nat) = 9997 + 3 from rfl, eqIn_class, eq_class]
  rfl
theorem eqIn_position (d : Nat) (a0 a1 a2 a3 a4 a5 b0 b1 b2 b3 b4 b5 : Int) (W : World) : (Op.equalIn (d + 3) 93 (.agg #[Value.int .i64 a0, Value.int .i64 a1, Value.int .i64 a2, Value.int .i64 a3, Value.int .i64 a4, Value.int .u64 a5]) (.agg #[Value.int .i64 b0, Value.int .i64 b1, Value.int .i64 b2, Value.int .i64 b3, Value.int .i64 b4, Value.int .u64 b5])).run Tryz.prog W = .ok ((a0 == b0) && (((a1 == b1) && ((a2 == b2) && ((a3 == b3) && ((a4 == b4) && true)))) && ((a5 == b5) && true))) W := by
  have hS : Tryz.prog.underlying 93 = some (.struct (Tryz.prog.fieldsOf 93)) := by kernel_rfl
  rw [show d + 3 = (d + 2) + 1 from rfl, run_equalIn_struct W (d + 2) _ _ _ hS (by kernel_rfl)]
  simp only [Program.fieldsOf, Tryz.underlying93]
  exact eqF_cons (by decide) (partI Tryz.underlying3 rfl _) (partI Tryz.underlying3 rfl _) (run_equalIn_int W _ _ _ _ _ _ Tryz.underlying3) (eqF_cons (by decide) (partS (ys := #[Value.int .i64 a1, Value.int .i64 a2, Value.int .i64 a3, Value.int .i64 a4]) (z := 4) Tryz.underlying37 (by kernel_rfl) rfl _) (partS (ys := #[Value.int .i64 b1, Value.int .i64 b2, Value.int .i64 b3, Value.int .i64 b4]) (z := 4) Tryz.underlying37 (by kernel_rfl) rfl _) (eqIn_stamp (d + 0) a1 a2 a3 a4 b1 b2 b3 b4 W) (eqF_cons (by decide) (partI Tryz.underlying32 rfl _) (partI Tryz.underlying32 rfl _) (run_equalIn_int W _ _ _ _ _ _ Tryz.underlying32) (eqF_nil)))
theorem eq_position (a0 a1 a2 a3 a4 a5 b0 b1 b2 b3 b4 b5 : Int) : ((a0 == b0) && (((a1 == b1) && ((a2 == b2) && ((a3 == b3) && ((a4 == b4) && true)))) && ((a5 == b5) && true))) = decide ((a0, a1, a2, a3, a4, a5) = (b0, b1, b2, b3, b4, b5)) := by
  rw [Bool.eq_iff_iff]
  simp only [Bool.and_eq_true, beq_iff_eq, Prod.mk.injEq, and_assoc, and_true, decide_eq_true_eq]
theorem eql_position (a0 a1 a2 a3 a4 a5 b0 b1 b2 b3 b4 b5 : Int) (W : World) : (binOp .eql 93 (.agg #[Value.int .i64 a0, Value.int .i64 a1, Value.int .i64 a2, Value.int .i64 a3, Value.int .i64 a4, Value.int .u64 a5]) (.agg #[Value.int .i64 b0, Value.int .i64 b1, Value.int .i64 b2, Value.int .i64 b3, Value.int .i64 b4, Value.int .u64 b5])).run Tryz.prog W = .ok (.bool (decide ((a0, a1, a2, a3, a4, a5) = (b0, b1, b2, b3, b4, b5)))) W := by
  rw [run_eql_struct, show (10000 : Nat) = 9997 + 3 from rfl, eqIn_position, eq_position]
  rfl
theorem eqIn_loss (d : Nat) (a0 a1 a2 a3 a4 b0 b1 b2 b3 b4 : Int) (W : World) : (Op.equalIn (d + 3) 84 (.agg #[Value.int .i64 a0, Value.int .i64 a1, Value.int .i64 a2, Value.int .i64 a3, Value.int .u64 a4]) (.agg #[Value.int .i64 b0, Value.int .i64 b1, Value.int .i64 b2, Value.int .i64 b3, Value.int .u64 b4])).run Tryz.prog W = .ok (((a0 == b0) && ((a1 == b1) && ((a2 == b2) && ((a3 == b3) && true)))) && ((a4 == b4) && true)) W := by
  have hS : Tryz.prog.underlying 84 = some (.struct (Tryz.prog.fieldsOf 84)) := by kernel_rfl
  rw [show d + 3 = (d + 2) + 1 from rfl, run_equalIn_struct W (d + 2) _ _ _ hS (by kernel_rfl)]
  simp only [Program.fieldsOf, Tryz.underlying84]
  exact eqF_cons (by decide) (partS (ys := #[Value.int .i64 a0, Value.int .i64 a1, Value.int .i64 a2, Value.int .i64 a3]) (z := 4) Tryz.underlying37 (by kernel_rfl) rfl _) (partS (ys := #[Value.int .i64 b0, Value.int .i64 b1, Value.int .i64 b2, Value.int .i64 b3]) (z := 4) Tryz.underlying37 (by kernel_rfl) rfl _) (eqIn_stamp (d + 0) a0 a1 a2 a3 b0 b1 b2 b3 W) (eqF_cons (by decide) (partI Tryz.underlying32 rfl _) (partI Tryz.underlying32 rfl _) (run_equalIn_int W _ _ _ _ _ _ Tryz.underlying32) (eqF_nil))
theorem eq_loss (a0 a1 a2 a3 a4 b0 b1 b2 b3 b4 : Int) : (((a0 == b0) && ((a1 == b1) && ((a2 == b2) && ((a3 == b3) && true)))) && ((a4 == b4) && true)) = decide ((a0, a1, a2, a3, a4) = (b0, b1, b2, b3, b4)) := by
  rw [Bool.eq_iff_iff]
  simp only [Bool.and_eq_true, beq_iff_eq, Prod.mk.injEq, and_assoc, and_true, decide_eq_true_eq]
theorem eql_loss (a0 a1 a2 a3 a4 b0 b1 b2 b3 b4 : Int) (W : World) : (binOp .eql 84 (.agg #[Value.int .i64 a0, Value.int .i64 a1, Value.int .i64 a2, Value.int .i64 a3, Value.int .u64 a4]) (.agg #[Value.int .i64 b0, Value.int .i64 b1, Value.int .i64 b2, Value.int .i64 b3, Value.int .u64 b4])).run Tryz.prog W = .ok (.bool (decide ((a0, a1, a2, a3, a4) = (b0, b1, b2, b3, b4)))) W := by
  rw [run_eql_struct, show (10000 : Nat) = 9997 + 3 from rfl, eqIn_loss, eq_loss]
  rfl
end Rw
end Go.Proofs.YtneajcoiemkfbaaGreat
end

section
/-
  Classes, positions and losses as rows of any width. No condition.
-/
namespace Go.Proofs.YtneajcoiemkfbaaGreat
open Go.RowKit Go.Shelf
set_option linter.unusedVariables false
namespace Ho
open Kk Pm

def wC : Rw.Row R6 := ⟨cC, 6, c6C.len, c6C.one, by decide⟩
def wP : Rw.Row R6 := ⟨cP, 6, c6P.len, c6P.one, by decide⟩
abbrev R5 := Int × Int × Int × Int × Int
def cL5 : R5 → List Value
  | (a, b, d, e, t) => [.int .i64 a, .int .i64 b, .int .i64 d, .int .i64 e, .int .u64 t]
def wL : Rw.Row R5 := ⟨cL5, 5, fun _ => rfl, fun r u hu => by
  obtain ⟨a, b, d, e, t⟩ := r
  simp only [cL5, List.mem_cons, List.not_mem_nil, or_false] at hu
  rcases hu with rfl | rfl | rfl | rfl | rfl <;> rfl, by decide⟩
def r5 : R6 → R5
  | (a, b, d, e, t, _) => (a, b, d, e, t)
theorem rsC {w : World} {A : Option Addr} {n c : Nat} {l : List R6} (h : RS cC w A n c l) : Rw.RS wC w A n c l := ⟨h.len, h.cap, h.nil, h.row⟩
theorem rsP {w : World} {A : Option Addr} {n c : Nat} {l : List R6} (h : RS cP w A n c l) : Rw.RS wP w A n c l := ⟨h.len, h.cap, h.nil, h.row⟩
theorem flatL5 : ∀ l : List R6, flatL l = Rw.flat wL (l.map r5)
  | [] => rfl
  | r :: l => by
    show cL r ++ flatL l = cL5 (r5 r) ++ Rw.flat wL (l.map r5)
    rw [flatL5 l]
    rfl
theorem rsL {w : World} {base : Nat} {v : Value} {l : List R6} (h : OwnL w base v l) : Rw.OwnR wL 84 w base v (l.map r5) := by
  unfold OwnL at h
  rw [flatL5] at h
  unfold Rw.OwnR
  rw [List.length_map]
  exact h
end Ho
end Go.Proofs.YtneajcoiemkfbaaGreat
end

section
/-
  What the kit's Same functions tell of two lists of rows. Conditions: at most a billion rows.
-/
namespace Go.Proofs.YtneajcoiemkfbaaGreat
open Go.RowKit Go.Shelf
set_option linter.unusedVariables false
set_option linter.unusedSimpArgs false
namespace Ho
open Kk Pm

set_option maxRecDepth 100000 in
set_option maxHeartbeats 4000000 in
theorem same_classes (A B : Option Addr) (n c m d : Nat) (l1 l2 : List _) (w : World) (ha : Rw.RS wC w A n c l1) (hb : Rw.RS wC w B m d l2) (hn : n ≤ 1000000000) (hm : m ≤ 1000000000) :
    Calls Tryz.prog 38 #[.slice A n c, .slice B m d] w fun e w' => e = .returned (.bool (decide (l1 = l2))) ∧ Bel w w' := by
  have HA := Lib.hid ha
  have HB := Lib.hid hb
  have HLA := Lib.hid ha.len
  have HLB := Lib.hid hb.len
  clear ha hb
  by_cases hnm : n = m
  · subst hnm
    have hbb : ((n : Int) == n) = true := by simp
    go_enter Tryz.func38, Tryz.ntmps38
    go_wp2_with fail
    go_loopw [5, 6] (fun s i wr => ∃ k : Nat, k ≤ n ∧ i = .int .i64 k ∧ Bel w wr ∧ ∃ b : Bool, s = .bool b ∧ (b = true → l1.take k = l2.take k) ∧ (b = false → l1 ≠ l2)) (fun _ i _ => n - (intOf i).toNat)
    case atStart => exact ⟨0, Nat.zero_le _, rfl, Bel.refl _, true, rfl, fun _ => rfl, fun h => by cases h⟩
    case round =>
      obtain ⟨k, hk, rfl, hbel, b, rfl, ht, hf⟩ := hrel
      cases b with
      | false =>
        have HD := Lib.hid (show decide (l1 = l2) = false from decide_eq_false (hf rfl))
        have HBE := Lib.hid hbel
        clear ht hf hbel
        go_wp2
        go_ret
        exact ⟨by rw [HD.out]; rfl, HBE.out⟩
      | true =>
        have HT := Lib.hid (ht rfl)
        clear ht hf
        by_cases hlt : k < n
        · obtain ⟨⟨a0, a1, a2, a3, a4, a5⟩, hr1⟩ := HA.out.get hlt
          obtain ⟨⟨b0, b1, b2, b3, b4, b5⟩, hr2⟩ := HB.out.get hlt
          obtain ⟨g1, o1, rfl, _, c1⟩ := (HA.out.bel hbel).at hlt hr1
          obtain ⟨g2, o2, rfl, _, c2⟩ := (HB.out.bel hbel).at hlt hr2
          have HC1 := Lib.hid (show wr.rangeAt g1 (o1 + k * 6) #[.int .i64 a0, .int .i64 a1, .int .i64 a2, .int .i64 a3, .int .u64 a4, .int .u64 a5].toList from c1)
          have HC2 := Lib.hid (show wr.rangeAt g2 (o2 + k * 6) #[.int .i64 b0, .int .i64 b1, .int .i64 b2, .int .i64 b3, .int .u64 b4, .int .u64 b5].toList from c2)
          have HBE := Lib.hid hbel
          have EQ := Lib.hid (fun V => Rw.eql_class a0 a1 a2 a3 a4 a5 b0 b1 b2 b3 b4 b5 V)
          have HNX := Lib.hid (show ∀ y : Bool, decide ((a0, a1, a2, a3, a4, a5) = (b0, b1, b2, b3, b4, b5)) = y → (y = true → l1.take (k + 1) = l2.take (k + 1)) ∧ (y = false → l1 ≠ l2) from fun y hy => by
            refine ⟨fun h => ?_, fun h e => ?_⟩
            · rw [List.take_add_one, List.take_add_one, hr1, hr2, HT.out, of_decide_eq_true (hy.trans h)]
            · subst e
              rw [decide_eq_true (Option.some.inj (hr1.symm.trans hr2))] at hy
              rw [← hy] at h
              cases h)
          obtain ⟨y, hy⟩ : ∃ y, decide ((a0, a1, a2, a3, a4, a5) = (b0, b1, b2, b3, b4, b5)) = y := ⟨_, rfl⟩
          have HNX := Lib.hid (HNX.out y hy)
          replace EQ := Lib.hid (show ∀ V, (binOp .eql 90 (.agg #[.int .i64 a0, .int .i64 a1, .int .i64 a2, .int .i64 a3, .int .u64 a4, .int .u64 a5]) (.agg #[.int .i64 b0, .int .i64 b1, .int .i64 b2, .int .i64 b3, .int .u64 b4, .int .u64 b5])).run Tryz.prog V = .ok (.bool y) V from fun V => by rw [← hy]; exact EQ.out V)
          have hlt3 : (k : Int) < n := by omega
          have hlt0 : (0 : Int) ≤ k := by omega
          clear hr1 hr2 c1 c2 hbel hy
          go_upto_region 5 with fail
          refine wp_region_held_drew (S := fun Vx => Bel wr Vx) (by kernel_rfl) (Bel.refl _).drew (fun hS0 => ?_)
          obtain ⟨w6, hw6⟩ : ∃ w6, World.drew wr = w6 := ⟨_, rfl⟩
          rw [hw6] at hS0 ⊢
          clear hw6
          refine ztk 0 { dst := some 21, op := .move (.tmp 0), type := 22, pos := "holdings.go:23", after := #[], guard := none } (.slice (some ⟨g1, o1, none⟩) n c) (Or.inl ⟨by rfl, by intro w hSw; clear hSw; go_simp⟩) hS0 ?_
          try simp only [Act.put, zq1, zq2, zq3]
          refine ztk 1 { dst := some 22, op := .move (.tmp 6), type := 3, pos := "holdings.go:23", after := #[], guard := none } (.int .i64 k) (Or.inl ⟨by rfl, by intro w hSw; clear hSw; go_simp⟩) hS0 ?_
          try simp only [Act.put, zq1, zq2, zq3]
          refine ztk 2 { dst := some 23, op := .indexAddr 22 (.tmp 21) (.tmp 22), type := 0, pos := "holdings.go:23", after := #[{ on := 0, ground := .data }, { on := 1, ground := .data }], guard := none } (.pointer (some ⟨g1, o1 + k * 6, none⟩)) (Or.inl ⟨by rfl, by intro w hSw; clear hSw; go_simp⟩) hS0 ?_
          try simp only [Act.put, zq1, zq2, zq3]
          refine ztk 3 { dst := some 24, op := .load 90 (.tmp 23), type := 90, pos := "holdings.go:23", after := #[{ on := 2, ground := .data }], guard := none } (.agg #[.int .i64 a0, .int .i64 a1, .int .i64 a2, .int .i64 a3, .int .u64 a4, .int .u64 a5]) (yieldsIf_load_mid (by rfl) _ _ rfl _ _ rfl _ _ (fun w h => rng_bel HC1.out h) Tryz.underlying90 rfl (by kernel_rfl)) hS0 ?_
          try simp only [Act.put, zq1, zq2, zq3]
          refine ztk 4 { dst := some 25, op := .move (.tmp 1), type := 22, pos := "holdings.go:23", after := #[], guard := none } (.slice (some ⟨g2, o2, none⟩) n d) (Or.inl ⟨by rfl, by intro w hSw; clear hSw; go_simp⟩) hS0 ?_
          try simp only [Act.put, zq1, zq2, zq3]
          refine ztk 5 { dst := some 26, op := .move (.tmp 6), type := 3, pos := "holdings.go:23", after := #[], guard := none } (.int .i64 k) (Or.inl ⟨by rfl, by intro w hSw; clear hSw; go_simp⟩) hS0 ?_
          try simp only [Act.put, zq1, zq2, zq3]
          refine ztk 6 { dst := some 27, op := .indexAddr 22 (.tmp 25) (.tmp 26), type := 0, pos := "holdings.go:23", after := #[{ on := 4, ground := .data }, { on := 5, ground := .data }], guard := none } (.pointer (some ⟨g2, o2 + k * 6, none⟩)) (Or.inl ⟨by rfl, by intro w hSw; clear hSw; go_simp⟩) hS0 ?_
          try simp only [Act.put, zq1, zq2, zq3]
          refine ztk 7 { dst := some 28, op := .load 90 (.tmp 27), type := 90, pos := "holdings.go:23", after := #[{ on := 6, ground := .data }], guard := none } (.agg #[.int .i64 b0, .int .i64 b1, .int .i64 b2, .int .i64 b3, .int .u64 b4, .int .u64 b5]) (yieldsIf_load_mid (by rfl) _ _ rfl _ _ rfl _ _ (fun w h => rng_bel HC2.out h) Tryz.underlying90 rfl (by kernel_rfl)) hS0 ?_
          try simp only [Act.put, zq1, zq2, zq3]
          refine ztk 8 { dst := some 29, op := .binOp .eql 90 (.tmp 24) (.tmp 28) 90, type := 4, pos := "holdings.go:23", after := #[{ on := 3, ground := .data }, { on := 7, ground := .data }], guard := none } (.bool y) (Or.inl ⟨by rfl, fun w _ => Rw.exec_eql rfl _ _ rfl rfl (by kernel_rfl) EQ.out w⟩) hS0 ?_
          try simp only [Act.put, zq1, zq2, zq3]
          refine ztk 9 { dst := some 5, op := .assign (.tmp 29), type := 4, pos := "holdings.go:23", after := #[{ on := 8, ground := .data }, { on := 0, ground := .phase }, { on := 1, ground := .phase }, { on := 2, ground := .phase }, { on := 3, ground := .phase }, { on := 4, ground := .phase }, { on := 5, ground := .phase }, { on := 6, ground := .phase }, { on := 7, ground := .phase }, { on := 8, ground := .phase }], guard := none } (.bool y) (Or.inl ⟨by rfl, by intro w hSw; clear hSw; go_simp⟩) hS0 ?_
          try simp only [Act.put, zq1, zq2, zq3]
          refine wpAnyH_done (by kernel_rfl) ?_ _
          have HE := Lib.hid (HBE.out.trans hS0)
          clear HC1 HC2 EQ HBE
          go_wp2_with fail
          go_roundw
          case rel => exact ⟨k + 1, by omega, by go_num, HE.out, y, rfl, HNX.out.1, HNX.out.2⟩
          case measure => simp [intOf]; omega
        · obtain rfl : k = n := by omega
          have HD := Lib.hid (show decide (l1 = l2) = true from decide_eq_true (by
            have h := HT.out
            rwa [List.take_of_length_le (by rw [HLA.out]; exact Nat.le_refl _), List.take_of_length_le (by rw [HLB.out]; exact Nat.le_refl _)] at h))
          have HBE := Lib.hid hbel
          clear hbel
          go_wp2
          go_ret
          exact ⟨by rw [HD.out]; rfl, HBE.out⟩
  · have HD := Lib.hid (show decide (l1 = l2) = false from decide_eq_false (fun e => hnm (by
      have := congrArg List.length e
      rw [HLA.out, HLB.out] at this
      exact this)))
    have hbb : ((n : Int) == m) = false := by simp; omega
    clear hnm
    go_enter Tryz.func38, Tryz.ntmps38
    go_wp2_with fail
    go_loop [5] (fun s => s = .bool false) (fun _ => 0)
    case atStart => rfl
    case round =>
      subst hrel
      go_wp2
      go_ret
      exact ⟨by rw [HD.out]; rfl, Bel.refl _⟩

set_option maxRecDepth 100000 in
set_option maxHeartbeats 4000000 in
theorem same_positions (A B : Option Addr) (n c m d : Nat) (l1 l2 : List _) (w : World) (ha : Rw.RS wP w A n c l1) (hb : Rw.RS wP w B m d l2) (hn : n ≤ 1000000000) (hm : m ≤ 1000000000) :
    Calls Tryz.prog 34 #[.slice A n c, .slice B m d] w fun e w' => e = .returned (.bool (decide (l1 = l2))) ∧ Bel w w' := by
  have HA := Lib.hid ha
  have HB := Lib.hid hb
  have HLA := Lib.hid ha.len
  have HLB := Lib.hid hb.len
  clear ha hb
  by_cases hnm : n = m
  · subst hnm
    have hbb : ((n : Int) == n) = true := by simp
    go_enter Tryz.func34, Tryz.ntmps34
    go_wp2_with fail
    go_loopw [5, 6] (fun s i wr => ∃ k : Nat, k ≤ n ∧ i = .int .i64 k ∧ Bel w wr ∧ ∃ b : Bool, s = .bool b ∧ (b = true → l1.take k = l2.take k) ∧ (b = false → l1 ≠ l2)) (fun _ i _ => n - (intOf i).toNat)
    case atStart => exact ⟨0, Nat.zero_le _, rfl, Bel.refl _, true, rfl, fun _ => rfl, fun h => by cases h⟩
    case round =>
      obtain ⟨k, hk, rfl, hbel, b, rfl, ht, hf⟩ := hrel
      cases b with
      | false =>
        have HD := Lib.hid (show decide (l1 = l2) = false from decide_eq_false (hf rfl))
        have HBE := Lib.hid hbel
        clear ht hf hbel
        go_wp2
        go_ret
        exact ⟨by rw [HD.out]; rfl, HBE.out⟩
      | true =>
        have HT := Lib.hid (ht rfl)
        clear ht hf
        by_cases hlt : k < n
        · obtain ⟨⟨a0, a1, a2, a3, a4, a5⟩, hr1⟩ := HA.out.get hlt
          obtain ⟨⟨b0, b1, b2, b3, b4, b5⟩, hr2⟩ := HB.out.get hlt
          obtain ⟨g1, o1, rfl, _, c1⟩ := (HA.out.bel hbel).at hlt hr1
          obtain ⟨g2, o2, rfl, _, c2⟩ := (HB.out.bel hbel).at hlt hr2
          have HC1 := Lib.hid (show wr.rangeAt g1 (o1 + k * 6) #[.int .i64 a0, .int .i64 a1, .int .i64 a2, .int .i64 a3, .int .i64 a4, .int .u64 a5].toList from c1)
          have HC2 := Lib.hid (show wr.rangeAt g2 (o2 + k * 6) #[.int .i64 b0, .int .i64 b1, .int .i64 b2, .int .i64 b3, .int .i64 b4, .int .u64 b5].toList from c2)
          have HBE := Lib.hid hbel
          have EQ := Lib.hid (fun V => Rw.eql_position a0 a1 a2 a3 a4 a5 b0 b1 b2 b3 b4 b5 V)
          have HNX := Lib.hid (show ∀ y : Bool, decide ((a0, a1, a2, a3, a4, a5) = (b0, b1, b2, b3, b4, b5)) = y → (y = true → l1.take (k + 1) = l2.take (k + 1)) ∧ (y = false → l1 ≠ l2) from fun y hy => by
            refine ⟨fun h => ?_, fun h e => ?_⟩
            · rw [List.take_add_one, List.take_add_one, hr1, hr2, HT.out, of_decide_eq_true (hy.trans h)]
            · subst e
              rw [decide_eq_true (Option.some.inj (hr1.symm.trans hr2))] at hy
              rw [← hy] at h
              cases h)
          obtain ⟨y, hy⟩ : ∃ y, decide ((a0, a1, a2, a3, a4, a5) = (b0, b1, b2, b3, b4, b5)) = y := ⟨_, rfl⟩
          have HNX := Lib.hid (HNX.out y hy)
          replace EQ := Lib.hid (show ∀ V, (binOp .eql 93 (.agg #[.int .i64 a0, .int .i64 a1, .int .i64 a2, .int .i64 a3, .int .i64 a4, .int .u64 a5]) (.agg #[.int .i64 b0, .int .i64 b1, .int .i64 b2, .int .i64 b3, .int .i64 b4, .int .u64 b5])).run Tryz.prog V = .ok (.bool y) V from fun V => by rw [← hy]; exact EQ.out V)
          have hlt3 : (k : Int) < n := by omega
          have hlt0 : (0 : Int) ≤ k := by omega
          clear hr1 hr2 c1 c2 hbel hy
          go_upto_region 5 with fail
          refine wp_region_held_drew (S := fun Vx => Bel wr Vx) (by kernel_rfl) (Bel.refl _).drew (fun hS0 => ?_)
          obtain ⟨w6, hw6⟩ : ∃ w6, World.drew wr = w6 := ⟨_, rfl⟩
          rw [hw6] at hS0 ⊢
          clear hw6
          refine ztk 0 { dst := some 21, op := .move (.tmp 0), type := 23, pos := "holdings.go:31", after := #[], guard := none } (.slice (some ⟨g1, o1, none⟩) n c) (Or.inl ⟨by rfl, by intro w hSw; clear hSw; go_simp⟩) hS0 ?_
          try simp only [Act.put, zq1, zq2, zq3]
          refine ztk 1 { dst := some 22, op := .move (.tmp 6), type := 3, pos := "holdings.go:31", after := #[], guard := none } (.int .i64 k) (Or.inl ⟨by rfl, by intro w hSw; clear hSw; go_simp⟩) hS0 ?_
          try simp only [Act.put, zq1, zq2, zq3]
          refine ztk 2 { dst := some 23, op := .indexAddr 23 (.tmp 21) (.tmp 22), type := 0, pos := "holdings.go:31", after := #[{ on := 0, ground := .data }, { on := 1, ground := .data }], guard := none } (.pointer (some ⟨g1, o1 + k * 6, none⟩)) (Or.inl ⟨by rfl, by intro w hSw; clear hSw; go_simp⟩) hS0 ?_
          try simp only [Act.put, zq1, zq2, zq3]
          refine ztk 3 { dst := some 24, op := .load 93 (.tmp 23), type := 93, pos := "holdings.go:31", after := #[{ on := 2, ground := .data }], guard := none } (.agg #[.int .i64 a0, .int .i64 a1, .int .i64 a2, .int .i64 a3, .int .i64 a4, .int .u64 a5]) (yieldsIf_load_mid (by rfl) _ _ rfl _ _ rfl _ _ (fun w h => rng_bel HC1.out h) Tryz.underlying93 rfl (by kernel_rfl)) hS0 ?_
          try simp only [Act.put, zq1, zq2, zq3]
          refine ztk 4 { dst := some 25, op := .move (.tmp 1), type := 23, pos := "holdings.go:31", after := #[], guard := none } (.slice (some ⟨g2, o2, none⟩) n d) (Or.inl ⟨by rfl, by intro w hSw; clear hSw; go_simp⟩) hS0 ?_
          try simp only [Act.put, zq1, zq2, zq3]
          refine ztk 5 { dst := some 26, op := .move (.tmp 6), type := 3, pos := "holdings.go:31", after := #[], guard := none } (.int .i64 k) (Or.inl ⟨by rfl, by intro w hSw; clear hSw; go_simp⟩) hS0 ?_
          try simp only [Act.put, zq1, zq2, zq3]
          refine ztk 6 { dst := some 27, op := .indexAddr 23 (.tmp 25) (.tmp 26), type := 0, pos := "holdings.go:31", after := #[{ on := 4, ground := .data }, { on := 5, ground := .data }], guard := none } (.pointer (some ⟨g2, o2 + k * 6, none⟩)) (Or.inl ⟨by rfl, by intro w hSw; clear hSw; go_simp⟩) hS0 ?_
          try simp only [Act.put, zq1, zq2, zq3]
          refine ztk 7 { dst := some 28, op := .load 93 (.tmp 27), type := 93, pos := "holdings.go:31", after := #[{ on := 6, ground := .data }], guard := none } (.agg #[.int .i64 b0, .int .i64 b1, .int .i64 b2, .int .i64 b3, .int .i64 b4, .int .u64 b5]) (yieldsIf_load_mid (by rfl) _ _ rfl _ _ rfl _ _ (fun w h => rng_bel HC2.out h) Tryz.underlying93 rfl (by kernel_rfl)) hS0 ?_
          try simp only [Act.put, zq1, zq2, zq3]
          refine ztk 8 { dst := some 29, op := .binOp .eql 93 (.tmp 24) (.tmp 28) 93, type := 4, pos := "holdings.go:31", after := #[{ on := 3, ground := .data }, { on := 7, ground := .data }], guard := none } (.bool y) (Or.inl ⟨by rfl, fun w _ => Rw.exec_eql rfl _ _ rfl rfl (by kernel_rfl) EQ.out w⟩) hS0 ?_
          try simp only [Act.put, zq1, zq2, zq3]
          refine ztk 9 { dst := some 5, op := .assign (.tmp 29), type := 4, pos := "holdings.go:31", after := #[{ on := 8, ground := .data }, { on := 0, ground := .phase }, { on := 1, ground := .phase }, { on := 2, ground := .phase }, { on := 3, ground := .phase }, { on := 4, ground := .phase }, { on := 5, ground := .phase }, { on := 6, ground := .phase }, { on := 7, ground := .phase }, { on := 8, ground := .phase }], guard := none } (.bool y) (Or.inl ⟨by rfl, by intro w hSw; clear hSw; go_simp⟩) hS0 ?_
          try simp only [Act.put, zq1, zq2, zq3]
          refine wpAnyH_done (by kernel_rfl) ?_ _
          have HE := Lib.hid (HBE.out.trans hS0)
          clear HC1 HC2 EQ HBE
          go_wp2_with fail
          go_roundw
          case rel => exact ⟨k + 1, by omega, by go_num, HE.out, y, rfl, HNX.out.1, HNX.out.2⟩
          case measure => simp [intOf]; omega
        · obtain rfl : k = n := by omega
          have HD := Lib.hid (show decide (l1 = l2) = true from decide_eq_true (by
            have h := HT.out
            rwa [List.take_of_length_le (by rw [HLA.out]; exact Nat.le_refl _), List.take_of_length_le (by rw [HLB.out]; exact Nat.le_refl _)] at h))
          have HBE := Lib.hid hbel
          clear hbel
          go_wp2
          go_ret
          exact ⟨by rw [HD.out]; rfl, HBE.out⟩
  · have HD := Lib.hid (show decide (l1 = l2) = false from decide_eq_false (fun e => hnm (by
      have := congrArg List.length e
      rw [HLA.out, HLB.out] at this
      exact this)))
    have hbb : ((n : Int) == m) = false := by simp; omega
    clear hnm
    go_enter Tryz.func34, Tryz.ntmps34
    go_wp2_with fail
    go_loop [5] (fun s => s = .bool false) (fun _ => 0)
    case atStart => rfl
    case round =>
      subst hrel
      go_wp2
      go_ret
      exact ⟨by rw [HD.out]; rfl, Bel.refl _⟩

set_option maxRecDepth 100000 in
set_option maxHeartbeats 4000000 in
theorem same_losses (A B : Option Addr) (n c m d : Nat) (l1 l2 : List _) (w : World) (ha : Rw.RS wL w A n c l1) (hb : Rw.RS wL w B m d l2) (hn : n ≤ 1000000000) (hm : m ≤ 1000000000) :
    Calls Tryz.prog 19 #[.slice A n c, .slice B m d] w fun e w' => e = .returned (.bool (decide (l1 = l2))) ∧ Bel w w' := by
  have HA := Lib.hid ha
  have HB := Lib.hid hb
  have HLA := Lib.hid ha.len
  have HLB := Lib.hid hb.len
  clear ha hb
  by_cases hnm : n = m
  · subst hnm
    have hbb : ((n : Int) == n) = true := by simp
    go_enter Tryz.func19, Tryz.ntmps19
    go_wp2_with fail
    go_loopw [5, 6] (fun s i wr => ∃ k : Nat, k ≤ n ∧ i = .int .i64 k ∧ Bel w wr ∧ ∃ b : Bool, s = .bool b ∧ (b = true → l1.take k = l2.take k) ∧ (b = false → l1 ≠ l2)) (fun _ i _ => n - (intOf i).toNat)
    case atStart => exact ⟨0, Nat.zero_le _, rfl, Bel.refl _, true, rfl, fun _ => rfl, fun h => by cases h⟩
    case round =>
      obtain ⟨k, hk, rfl, hbel, b, rfl, ht, hf⟩ := hrel
      cases b with
      | false =>
        have HD := Lib.hid (show decide (l1 = l2) = false from decide_eq_false (hf rfl))
        have HBE := Lib.hid hbel
        clear ht hf hbel
        go_wp2
        go_ret
        exact ⟨by rw [HD.out]; rfl, HBE.out⟩
      | true =>
        have HT := Lib.hid (ht rfl)
        clear ht hf
        by_cases hlt : k < n
        · obtain ⟨⟨a0, a1, a2, a3, a4⟩, hr1⟩ := HA.out.get hlt
          obtain ⟨⟨b0, b1, b2, b3, b4⟩, hr2⟩ := HB.out.get hlt
          obtain ⟨g1, o1, rfl, _, c1⟩ := (HA.out.bel hbel).at hlt hr1
          obtain ⟨g2, o2, rfl, _, c2⟩ := (HB.out.bel hbel).at hlt hr2
          have HC1 := Lib.hid (show wr.rangeAt g1 (o1 + k * 5) #[.int .i64 a0, .int .i64 a1, .int .i64 a2, .int .i64 a3, .int .u64 a4].toList from c1)
          have HC2 := Lib.hid (show wr.rangeAt g2 (o2 + k * 5) #[.int .i64 b0, .int .i64 b1, .int .i64 b2, .int .i64 b3, .int .u64 b4].toList from c2)
          have HBE := Lib.hid hbel
          have EQ := Lib.hid (fun V => Rw.eql_loss a0 a1 a2 a3 a4 b0 b1 b2 b3 b4 V)
          have HNX := Lib.hid (show ∀ y : Bool, decide ((a0, a1, a2, a3, a4) = (b0, b1, b2, b3, b4)) = y → (y = true → l1.take (k + 1) = l2.take (k + 1)) ∧ (y = false → l1 ≠ l2) from fun y hy => by
            refine ⟨fun h => ?_, fun h e => ?_⟩
            · rw [List.take_add_one, List.take_add_one, hr1, hr2, HT.out, of_decide_eq_true (hy.trans h)]
            · subst e
              rw [decide_eq_true (Option.some.inj (hr1.symm.trans hr2))] at hy
              rw [← hy] at h
              cases h)
          obtain ⟨y, hy⟩ : ∃ y, decide ((a0, a1, a2, a3, a4) = (b0, b1, b2, b3, b4)) = y := ⟨_, rfl⟩
          have HNX := Lib.hid (HNX.out y hy)
          replace EQ := Lib.hid (show ∀ V, (binOp .eql 84 (.agg #[.int .i64 a0, .int .i64 a1, .int .i64 a2, .int .i64 a3, .int .u64 a4]) (.agg #[.int .i64 b0, .int .i64 b1, .int .i64 b2, .int .i64 b3, .int .u64 b4])).run Tryz.prog V = .ok (.bool y) V from fun V => by rw [← hy]; exact EQ.out V)
          have hlt3 : (k : Int) < n := by omega
          have hlt0 : (0 : Int) ≤ k := by omega
          clear hr1 hr2 c1 c2 hbel hy
          go_upto_region 5 with fail
          refine wp_region_held_drew (S := fun Vx => Bel wr Vx) (by kernel_rfl) (Bel.refl _).drew (fun hS0 => ?_)
          obtain ⟨w6, hw6⟩ : ∃ w6, World.drew wr = w6 := ⟨_, rfl⟩
          rw [hw6] at hS0 ⊢
          clear hw6
          refine ztk 0 { dst := some 21, op := .move (.tmp 0), type := 33, pos := "holdings.go:39", after := #[], guard := none } (.slice (some ⟨g1, o1, none⟩) n c) (Or.inl ⟨by rfl, by intro w hSw; clear hSw; go_simp⟩) hS0 ?_
          try simp only [Act.put, zq1, zq2, zq3]
          refine ztk 1 { dst := some 22, op := .move (.tmp 6), type := 3, pos := "holdings.go:39", after := #[], guard := none } (.int .i64 k) (Or.inl ⟨by rfl, by intro w hSw; clear hSw; go_simp⟩) hS0 ?_
          try simp only [Act.put, zq1, zq2, zq3]
          refine ztk 2 { dst := some 23, op := .indexAddr 33 (.tmp 21) (.tmp 22), type := 0, pos := "holdings.go:39", after := #[{ on := 0, ground := .data }, { on := 1, ground := .data }], guard := none } (.pointer (some ⟨g1, o1 + k * 5, none⟩)) (Or.inl ⟨by rfl, by intro w hSw; clear hSw; go_simp⟩) hS0 ?_
          try simp only [Act.put, zq1, zq2, zq3]
          refine ztk 3 { dst := some 24, op := .load 84 (.tmp 23), type := 84, pos := "holdings.go:39", after := #[{ on := 2, ground := .data }], guard := none } (.agg #[.int .i64 a0, .int .i64 a1, .int .i64 a2, .int .i64 a3, .int .u64 a4]) (yieldsIf_load_mid (by rfl) _ _ rfl _ _ rfl _ _ (fun w h => rng_bel HC1.out h) Tryz.underlying84 rfl (by kernel_rfl)) hS0 ?_
          try simp only [Act.put, zq1, zq2, zq3]
          refine ztk 4 { dst := some 25, op := .move (.tmp 1), type := 33, pos := "holdings.go:39", after := #[], guard := none } (.slice (some ⟨g2, o2, none⟩) n d) (Or.inl ⟨by rfl, by intro w hSw; clear hSw; go_simp⟩) hS0 ?_
          try simp only [Act.put, zq1, zq2, zq3]
          refine ztk 5 { dst := some 26, op := .move (.tmp 6), type := 3, pos := "holdings.go:39", after := #[], guard := none } (.int .i64 k) (Or.inl ⟨by rfl, by intro w hSw; clear hSw; go_simp⟩) hS0 ?_
          try simp only [Act.put, zq1, zq2, zq3]
          refine ztk 6 { dst := some 27, op := .indexAddr 33 (.tmp 25) (.tmp 26), type := 0, pos := "holdings.go:39", after := #[{ on := 4, ground := .data }, { on := 5, ground := .data }], guard := none } (.pointer (some ⟨g2, o2 + k * 5, none⟩)) (Or.inl ⟨by rfl, by intro w hSw; clear hSw; go_simp⟩) hS0 ?_
          try simp only [Act.put, zq1, zq2, zq3]
          refine ztk 7 { dst := some 28, op := .load 84 (.tmp 27), type := 84, pos := "holdings.go:39", after := #[{ on := 6, ground := .data }], guard := none } (.agg #[.int .i64 b0, .int .i64 b1, .int .i64 b2, .int .i64 b3, .int .u64 b4]) (yieldsIf_load_mid (by rfl) _ _ rfl _ _ rfl _ _ (fun w h => rng_bel HC2.out h) Tryz.underlying84 rfl (by kernel_rfl)) hS0 ?_
          try simp only [Act.put, zq1, zq2, zq3]
          refine ztk 8 { dst := some 29, op := .binOp .eql 84 (.tmp 24) (.tmp 28) 84, type := 4, pos := "holdings.go:39", after := #[{ on := 3, ground := .data }, { on := 7, ground := .data }], guard := none } (.bool y) (Or.inl ⟨by rfl, fun w _ => Rw.exec_eql rfl _ _ rfl rfl (by kernel_rfl) EQ.out w⟩) hS0 ?_
          try simp only [Act.put, zq1, zq2, zq3]
          refine ztk 9 { dst := some 5, op := .assign (.tmp 29), type := 4, pos := "holdings.go:39", after := #[{ on := 8, ground := .data }, { on := 0, ground := .phase }, { on := 1, ground := .phase }, { on := 2, ground := .phase }, { on := 3, ground := .phase }, { on := 4, ground := .phase }, { on := 5, ground := .phase }, { on := 6, ground := .phase }, { on := 7, ground := .phase }, { on := 8, ground := .phase }], guard := none } (.bool y) (Or.inl ⟨by rfl, by intro w hSw; clear hSw; go_simp⟩) hS0 ?_
          try simp only [Act.put, zq1, zq2, zq3]
          refine wpAnyH_done (by kernel_rfl) ?_ _
          have HE := Lib.hid (HBE.out.trans hS0)
          clear HC1 HC2 EQ HBE
          go_wp2_with fail
          go_roundw
          case rel => exact ⟨k + 1, by omega, by go_num, HE.out, y, rfl, HNX.out.1, HNX.out.2⟩
          case measure => simp [intOf]; omega
        · obtain rfl : k = n := by omega
          have HD := Lib.hid (show decide (l1 = l2) = true from decide_eq_true (by
            have h := HT.out
            rwa [List.take_of_length_le (by rw [HLA.out]; exact Nat.le_refl _), List.take_of_length_le (by rw [HLB.out]; exact Nat.le_refl _)] at h))
          have HBE := Lib.hid hbel
          clear hbel
          go_wp2
          go_ret
          exact ⟨by rw [HD.out]; rfl, HBE.out⟩
  · have HD := Lib.hid (show decide (l1 = l2) = false from decide_eq_false (fun e => hnm (by
      have := congrArg List.length e
      rw [HLA.out, HLB.out] at this
      exact this)))
    have hbb : ((n : Int) == m) = false := by simp; omega
    clear hnm
    go_enter Tryz.func19, Tryz.ntmps19
    go_wp2_with fail
    go_loop [5] (fun s => s = .bool false) (fun _ => 0)
    case atStart => rfl
    case round =>
      subst hrel
      go_wp2
      go_ret
      exact ⟨by rw [HD.out]; rfl, Bel.refl _⟩

end Ho
end Go.Proofs.YtneajcoiemkfbaaGreat
end
