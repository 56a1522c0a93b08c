/-
  Rows of cells in memory, of any width, over any type of rows: a slice that reads as a list of them, a list of one's own, a block of them. No condition.
-/
import Derived.Lib.SliceRun
import Derived.WalkSpells
import Derived.Laws.AppendOwnNone
import Derived.Laws.AppendOwn
import Derived.RangeFuncWrites
import Derived.Test.YtcefjigbaglmeaaGreatGPMem
namespace Go.Proofs.YtcefjigbaglmeaaGreat
open Go.RowKit Go.Shelf
set_option linter.unusedVariables false
namespace Rw
open Kk Pm

/-- How a row is written in cells. -/
structure Row (α : Type) where
  k : α → List Value
  z : Nat
  len : ∀ r, (k r).length = z
  one : ∀ r, ∀ u ∈ k r, u.oneCell' = true
  pos : 0 < z
variable {α β : Type}
def flat (K : Row α) (l : List α) : List Value := l.flatMap K.k
theorem flat_len (K : Row α) : ∀ l, (flat K l).length = l.length * K.z
  | [] => (Nat.zero_mul _).symm
  | r :: l => by
    show (K.k r ++ flat K l).length = _
    rw [List.length_append, K.len, flat_len K l, List.length_cons, Nat.add_one_mul]; omega
theorem flat_one (K : Row α) : ∀ l, ∀ u ∈ flat K l, u.oneCell' = true := fun l u hu => by
  obtain ⟨r, _, h⟩ := List.mem_flatMap.1 hu
  exact K.one r u h
theorem flat_app (K : Row α) (a b : List α) : flat K (a ++ b) = flat K a ++ flat K b := by simp [flat]
theorem flat_at (K : Row α) : ∀ (l : List α) (i : Nat) (r : α), l[i]? = some r → ∀ j v, (K.k r)[j]? = some v → (flat K l)[i * K.z + j]? = some v
  | [], i, r, h, j, v, _ => by simp at h
  | y :: l, 0, r, h, j, v, hv => by
    simp at h; subst h
    have hj : j < K.z := by rw [← K.len y]; exact (List.getElem?_eq_some_iff.1 hv).1
    show (K.k y ++ flat K l)[0 * K.z + j]? = _
    rw [Nat.zero_mul, Nat.zero_add, List.getElem?_append_left (by rw [K.len]; exact hj)]
    exact hv
  | y :: l, i + 1, r, h, j, v, hv => by
    show (K.k y ++ flat K l)[(i + 1) * K.z + j]? = _
    rw [List.getElem?_append_right (by rw [K.len, Nat.add_one_mul]; omega), K.len, show (i + 1) * K.z + j - K.z = i * K.z + j by rw [Nat.add_one_mul]; omega]
    exact flat_at K l i r (by simpa using h) j v hv
theorem flat_take (K : Row α) (l : List α) (i : Nat) : (flat K l).take (i * K.z) = flat K (l.take i) := by
  rcases Nat.lt_or_ge i l.length with h | h
  · have e : l = l.take i ++ l.drop i := (List.take_append_drop i l).symm
    conv => lhs; rw [e]
    rw [flat_app, List.take_left' (by rw [flat_len K, List.length_take, Nat.min_eq_left (by omega)])]
  · rw [List.take_of_length_le (by rw [flat_len K]; exact Nat.mul_le_mul_right _ h), List.take_of_length_le h]
theorem flat_drop (K : Row α) (l : List α) (i : Nat) : (flat K l).drop (i * K.z) = flat K (l.drop i) := by
  rcases Nat.lt_or_ge i l.length with h | h
  · have e : l = l.take i ++ l.drop i := (List.take_append_drop i l).symm
    conv => lhs; rw [e]
    rw [flat_app, List.drop_left' (by rw [flat_len K, List.length_take, Nat.min_eq_left (by omega)])]
  · rw [List.drop_eq_nil_of_le (by rw [flat_len K]; exact Nat.mul_le_mul_right _ h), List.drop_eq_nil_of_le h]; rfl

/-- A slice that reads as rows. -/
structure RS (K : Row α) (w : World) (A : Option Addr) (n c : Nat) (l : List α) : Prop where
  len : l.length = n
  cap : n ≤ c
  nil : A = none → c = 0
  row : 0 < n → ∃ b o, A = some ⟨b, o, none⟩ ∧ b < w.heap.size ∧ ∀ i r, l[i]? = some r → w.rangeAt b (o + i * K.z) (K.k r)
section
variable {K : Row α} {w w' : World} {A : Option Addr} {n c : Nat} {l : List α}
theorem RS.bel (h : RS K w A n c l) (hb : Bel w w') : RS K w' A n c l :=
  ⟨h.len, h.cap, h.nil, fun hn => by
    obtain ⟨b, o, e, hlt, hc⟩ := h.row hn
    exact ⟨b, o, e, Nat.lt_of_lt_of_le hlt (Below.size hb), fun i r hi => rng_bel (hc i r hi) hb⟩⟩
theorem RS.kep {S : Nat → Prop} (h : RS K w A n c l) (hb : Kep S w w') (hs : ∀ x, A = some x → ¬ S x.block) : RS K w' A n c l :=
  ⟨h.len, h.cap, h.nil, fun hn => by
    obtain ⟨b, o, e, hlt, hc⟩ := h.row hn
    exact ⟨b, o, e, Nat.lt_of_lt_of_le hlt hb.size, fun i r hi => rng_kep (hc i r hi) hb (hs _ e)⟩⟩
theorem RS.nil_ : RS K w none 0 0 [] := ⟨rfl, Nat.le_refl _, fun _ => rfl, fun h => absurd h (by omega)⟩
theorem RS.part (h : RS K w A n c l) {m : Nat} (hm : m ≤ n) : RS K w A m c (l.take m) :=
  ⟨by rw [List.length_take, h.len]; omega, Nat.le_trans hm h.cap, h.nil, fun h0 => by
    obtain ⟨b, o, e, hlt, hc⟩ := h.row (by omega)
    refine ⟨b, o, e, hlt, fun i r hi => hc i r ?_⟩
    rw [List.getElem?_take] at hi
    split at hi
    · exact hi
    · cases hi⟩
theorem RS.get (h : RS K w A n c l) {i : Nat} (hi : i < n) : ∃ r, l[i]? = some r := by
  have : i < l.length := by rw [h.len]; exact hi
  exact ⟨l[i], List.getElem?_eq_getElem this⟩
/-- The cells of the row i. -/
theorem RS.at (h : RS K w A n c l) {i : Nat} (hi : i < n) {r : α} (hr : l[i]? = some r) : ∃ b o, A = some ⟨b, o, none⟩ ∧ b < w.heap.size ∧ w.rangeAt b (o + i * K.z) (K.k r) := by
  obtain ⟨b, o, e, hlt, hc⟩ := h.row (by omega)
  exact ⟨b, o, e, hlt, hc i r hr⟩
end
theorem rng_cell {w : World} {b o : Nat} {Y : List Value} (h : w.rangeAt b o Y) (j : Nat) {v : Value} (hv : Y[j]? = some v) : w.cell? ⟨b, o + j, none⟩ = some v := h j v hv
theorem rs_blk (K : Row α) {w : World} {g : Nat} {cur : Array Value} {t : TypeId} {l : List α} {n c : Nat} (hb : Blk w g cur t) (hl : l.length = n) (hnc : n ≤ c) (ht : cur.toList.take (n * K.z) = flat K l) : RS K w (some ⟨g, 0, none⟩) n c l :=
  ⟨hl, hnc, (fun h => by cases h), fun hn => ⟨g, 0, rfl, hb.lt, fun i r hi j v hv => by
    have h1 := flat_at K l i r hi j v hv
    rw [← ht, List.getElem?_take] at h1
    rw [Nat.zero_add]
    split at h1
    · exact hb.cell _ (by simpa using h1)
    · cases h1⟩⟩
theorem rs_own (K : Row α) {w : World} {base n : Nat} {e : TypeId} {v : Value} {l : List α} (h : w.ownsRow base e K.z v n (flat K l)) : ∃ A c, v = .slice A n c ∧ RS K w A n c l ∧ c ≤ maxLen ∧ ∀ x, A = some x → base ≤ x.block := by
  have hl : l.length = n := by have := h.1; rw [flat_len K] at this; exact Nat.eq_of_mul_eq_mul_right K.pos this
  rcases h.2 with ⟨rfl, rfl⟩ | ⟨g, cap, cur, rfl, hbg, hg, hnc, hm, hcs, ht⟩
  · have : l = [] := List.length_eq_zero_iff.1 hl
    subst this
    exact ⟨none, 0, rfl, RS.nil_, by unfold maxLen; omega, fun x h => by cases h⟩
  · exact ⟨_, _, rfl, rs_blk K hg hl hnc ht, hm, fun x h => by injection h with h; subst h; exact hbg⟩


theorem flat_inv (K : Row α) : ∀ (l : List α) (j : Nat) (u : Value), (flat K l)[j]? = some u → ∃ i t r, j = i * K.z + t ∧ l[i]? = some r ∧ (K.k r)[t]? = some u
  | [], j, u, h => by simp [flat] at h
  | y :: l, j, u, h => by
    replace h : (K.k y ++ flat K l)[j]? = some u := h
    rcases Nat.lt_or_ge j K.z with hj | hj
    · rw [List.getElem?_append_left (by rw [K.len]; exact hj)] at h
      exact ⟨0, j, y, by rw [Nat.zero_mul, Nat.zero_add], rfl, h⟩
    · rw [List.getElem?_append_right (by rw [K.len]; exact hj), K.len] at h
      obtain ⟨i, t, r, h1, h2, h3⟩ := flat_inv K l (j - K.z) u h
      exact ⟨i + 1, t, r, by rw [Nat.add_one_mul]; omega, by simpa using h2, h3⟩
theorem add_at (b o j : Nat) : (⟨b, o, none⟩ : Addr).add j = ⟨b, o + j, none⟩ := by
  unfold Addr.add
  by_cases h : j = 0
  · simp [h]
  · simp [h]
theorem rs_news (K : Row α) {w : World} {A : Addr} {n c : Nat} {l : List α} (h : RS K w (some A) n c l) : ∀ j u, (flat K l)[j]? = some u → w.cell? (A.add j) = some u := fun j u hj => by
  obtain ⟨i, t, r, rfl, hi, ht⟩ := flat_inv K l j u hj
  have hn : i < n := by have := (List.getElem?_eq_some_iff.1 hi).1; have := h.len; omega
  obtain ⟨b, o, e, _, hc⟩ := h.at hn hi
  injection e with e
  subst e
  rw [add_at, ← Nat.add_assoc]
  exact hc t u ht
/-- A row of one's own. -/
def OwnR (K : Row α) (t : TypeId) (w : World) (base : Nat) (v : Value) (l : List α) : Prop := w.ownsRow base t K.z v l.length (flat K l)
theorem OwnR.rs (K : Row α) {t : TypeId} {w : World} {base : Nat} {v : Value} {l : List α} (h : OwnR K t w base v l) : ∃ A c, v = .slice A l.length c ∧ RS K w A l.length c l ∧ c ≤ maxLen ∧ ∀ x, A = some x → base ≤ x.block := rs_own K h
theorem OwnR.bel {K : Row α} {t : TypeId} {w w' : World} {base : Nat} {v : Value} {l : List α} (h : OwnR K t w base v l) (hb : Bel w w') : OwnR K t w' base v l := Kk.owns_bel h hb
theorem OwnR.nil_ (K : Row α) (t : TypeId) (w : World) (base : Nat) : OwnR K t w base (.slice none 0 0) [] := World.ownsRow_nil w base t K.z


theorem no_cells {w : World} {a : Addr} {v : Value} {o : Obj} (h : w.cell? a = some v) (ho : w.heap[a.block]? = some o) (hc : o.isCells = false) : False := by
  unfold World.cell? at h
  rw [ho] at h
  cases o <;> simp [Obj.isCells] at hc h
theorem rng_grown {W W' : World} {row : Option Nat} {b o : Nat} {Y : List Value} (h : W.rangeAt b o Y) (hg : W.grownBy W' row) (hr : ∀ r, row = some r → ∃ o : Obj, W.heap[r]? = some o ∧ o.isCells = false) : W'.rangeAt b o Y := fun j v hv =>
  hg.cell (h j v hv) (fun e => by
    obtain ⟨ob, h1, h2⟩ := hr b e.symm
    exact no_cells (h j v hv) h1 h2)
theorem blk_grown {W W' : World} {row : Option Nat} {b : Nat} {cs : Array Value} {t : TypeId} (h : Blk W b cs t) (hg : W.grownBy W' row) (hr : ∀ r, row = some r → ∃ o : Obj, W.heap[r]? = some o ∧ o.isCells = false) : Blk W' b cs t :=
  (hg.block b h.lt (fun e => by
    obtain ⟨ob, h1, h2⟩ := hr b e.symm
    have h3 := (show W.heap[b]? = _ from h).symm.trans h1
    injection h3 with h3
    rw [← h3] at h2
    cases h2)).trans h
theorem RS.grown {K : Row α} {W W' : World} {A : Option Addr} {n c : Nat} {l : List α} {row : Option Nat} (h : RS K W A n c l) (hg : W.grownBy W' row) (hr : ∀ r, row = some r → ∃ o : Obj, W.heap[r]? = some o ∧ o.isCells = false) : RS K W' A n c l :=
  ⟨h.len, h.cap, h.nil, fun hn => by
    obtain ⟨b, o, e, hlt, hc⟩ := h.row hn
    exact ⟨b, o, e, Nat.lt_of_lt_of_le hlt hg.size, fun i r hi => rng_grown (hc i r hi) hg hr⟩⟩


theorem RS.kep2 {K : Row α} {w w' : World} {A : Option Addr} {n c : Nat} {l : List α} {S : Nat → Prop} (h : RS K w A n c l) (hb : Kep S w w') (hs : 0 < n → ∀ x, A = some x → ¬ S x.block) : RS K w' A n c l :=
  ⟨h.len, h.cap, h.nil, fun hn => by
    obtain ⟨b, o, e, hlt, hc⟩ := h.row hn
    exact ⟨b, o, e, Nat.lt_of_lt_of_le hlt hb.size, fun i r hi => rng_kep (hc i r hi) hb (hs hn _ e)⟩⟩

theorem flat_set (K : Row α) (o : Nat) (v : Value) (ho : o < K.z) : ∀ (l : List α) (i : Nat) (r r' : α), l[i]? = some r → K.k r' = (K.k r).set o v → (flat K l).set (i * K.z + o) v = flat K (l.set i r')
  | [], i, r, r', h, _ => by simp at h
  | y :: l, 0, r, r', h, he => by
    simp at h; subst h
    show (K.k y ++ flat K l).set (0 * K.z + o) v = K.k r' ++ flat K l
    rw [List.set_append_left _ _ (by rw [K.len, Nat.zero_mul]; omega), Nat.zero_mul, Nat.zero_add, he]
  | y :: l, i + 1, r, r', h, he => by
    show (K.k y ++ flat K l).set ((i + 1) * K.z + o) v = K.k y ++ flat K (l.set i r')
    rw [List.set_append_right _ _ (by rw [K.len, Nat.add_one_mul]; omega), K.len, show (i + 1) * K.z + o - K.z = i * K.z + o by rw [Nat.add_one_mul]; omega, flat_set K o v ho l i r r' (by simpa using h) he]
/-- A row in a block, known whole. -/
structure RB (K : Row α) (t : TypeId) (w : World) (g : Nat) (l : List α) (cap : Nat) : Prop where
  blk : ∃ cur, Blk w g cur t ∧ cur.toList.take (l.length * K.z) = flat K l ∧ cur.size = cap * K.z
  cap : l.length ≤ cap
section
variable {K : Row α} {t : TypeId} {w w' : World} {g cap : Nat} {l : List α}
theorem RB.rs (h : RB K t w g l cap) : RS K w (some ⟨g, 0, none⟩) l.length cap l := by
  obtain ⟨cur, h1, h2, h3⟩ := h.blk
  exact rs_blk K h1 rfl h.cap h2
theorem RB.bel (h : RB K t w g l cap) (hb : Bel w w') : RB K t w' g l cap := by
  obtain ⟨cur, h1, h2, h3⟩ := h.blk
  exact ⟨⟨cur, h1.bel hb, h2, h3⟩, h.cap⟩
theorem RB.kep {S : Nat → Prop} (h : RB K t w g l cap) (hb : Kep S w w') (hs : ¬ S g) : RB K t w' g l cap := by
  obtain ⟨cur, h1, h2, h3⟩ := h.blk
  exact ⟨⟨cur, h1.kep hb hs, h2, h3⟩, h.cap⟩
theorem RB.frozen (h : RB K t w g l cap) (i : Nat) : w.frozen? ⟨g, i, none⟩ = false := by
  obtain ⟨cur, h1, _⟩ := h.blk
  exact h1.frozen i
theorem RB.set (h : RB K t w g l cap) {i o : Nat} (ho : o < K.z) {r r' : α} {v : Value} (hr : l[i]? = some r) (he : K.k r' = (K.k r).set o v) : RB K t (w.setCell ⟨g, i * K.z + o, none⟩ v) g (l.set i r') cap := by
  obtain ⟨cur, h1, h2, h3⟩ := h.blk
  have hi := (List.getElem?_eq_some_iff.1 hr).1
  refine ⟨⟨_, h1.set _ v, ?_, by simpa using h3⟩, by simpa using h.cap⟩
  rw [List.length_set, Array.toList_setIfInBounds, List.take_set, h2, flat_set K o v ho l i r r' hr he]
theorem RB.grown (h : RB K t w g l cap) {row : Option Nat} (hg : w.grownBy w' row) (hr : ∀ r, row = some r → ∃ o : Obj, w.heap[r]? = some o ∧ o.isCells = false) : RB K t w' g l cap := by
  obtain ⟨cur, h1, h2, h3⟩ := h.blk
  exact ⟨⟨cur, blk_grown h1 hg hr, h2, h3⟩, h.cap⟩
end
theorem rb_own (K : Row α) {t : TypeId} {w : World} {base : Nat} {v : Value} {l : List α} (h : OwnR K t w base v l) (hl : 0 < l.length) : ∃ g cap, v = .slice (some ⟨g, 0, none⟩) l.length cap ∧ base ≤ g ∧ RB K t w g l cap ∧ cap ≤ maxLen := by
  rcases h.2 with ⟨_, h0⟩ | ⟨g, cap, cur, e, hbg, hg, hnc, hm, hcs, ht⟩
  · omega
  · exact ⟨g, cap, e, hbg, ⟨⟨cur, hg, ht, hcs⟩, hnc⟩, hm⟩


theorem OwnR.mono {K : Row α} {t : TypeId} {w : World} {b b' : Nat} {v : Value} {l : List α} (h : OwnR K t w b v l) (hb : b' ≤ b) : OwnR K t w b' v l := Kk.owns_mono h hb

theorem own_blk {K : Row α} {t : TypeId} {w : World} {base b : Nat} {v : Value} {l : List α} (h : OwnR K t w base v l) (hb : v.ownBlock = some b) : ∃ C, Blk w b C t := by
  rcases h.2 with ⟨rfl, _⟩ | ⟨g, cap, cur, rfl, _, hg, _⟩
  · cases hb
  · obtain rfl : g = b := Option.some.inj hb
    exact ⟨_, hg⟩
theorem blk_ty {w : World} {b : Nat} {C D : Array Value} {t u : TypeId} (h : Blk w b C t) (h' : Blk w b D u) : t = u := by
  have e := Option.some.inj (Eq.trans (Eq.symm h) h')
  injection e
theorem own_ne {K : Row α} {t u : TypeId} {w : World} {base b : Nat} {v : Value} {l : List α} {C : Array Value} (h : OwnR K t w base v l) (hb : Blk w b C u) (hne : t ≠ u) : ¬ v.ownBlock = some b := fun e => by
  obtain ⟨D, hD⟩ := own_blk h e
  exact hne (blk_ty hD hb)
theorem own_ne2 {K : Row α} {K' : Row β} {t u : TypeId} {w : World} {b b' : Nat} {v v' : Value} {l : List α} {l' : List β} (h : OwnR K t w b v l) (h' : OwnR K' u w b' v' l') (hne : t ≠ u) : ∀ i, v.ownBlock = some i → ¬ v'.ownBlock = some i := fun i e e' => by
  obtain ⟨D, hD⟩ := own_blk h' e'
  exact own_ne h hD hne e
theorem OwnR.kep {K : Row α} {t : TypeId} {w w' : World} {base : Nat} {v : Value} {l : List α} {S : Nat → Prop} (h : OwnR K t w base v l) (hk : Kep S w w') (hs : ∀ i, v.ownBlock = some i → ¬ S i) : OwnR K t w' base v l := Kep.owns hk hs h
theorem OwnR.one {K : Row α} {t : TypeId} {w : World} {base : Nat} {v : Value} {l : List α} (h : OwnR K t w base v l) : v.oneCell' = true := by
  obtain ⟨A, c, rfl, _⟩ := h.rs K
  rfl

theorem own_ge {K : Row α} {t : TypeId} {w : World} {base b : Nat} {v : Value} {l : List α} (h : OwnR K t w base v l) (hb : v.ownBlock = some b) : base ≤ b := by
  rcases h.2 with ⟨rfl, _⟩ | ⟨g, cap, cur, rfl, hge, _⟩
  · cases hb
  · obtain rfl : g = b := Option.some.inj hb
    exact hge

/-- What is left behind the first i rows. -/
theorem RS.drop {K : Row α} {w : World} {A : Option Addr} {n c : Nat} {l : List α} (h : RS K w A n c l) {i : Nat} (hi : i ≤ n) : RS K w (A.map (fun a => a.add (i * K.z))) (n - i) (c - i) (l.drop i) :=
  ⟨by rw [List.length_drop, h.len], Nat.sub_le_sub_right h.cap i, fun hA => by
    have : c = 0 := h.nil (by cases A with | none => rfl | some a => cases hA)
    omega, fun h0 => by
    obtain ⟨b, o, e, hlt, hc⟩ := h.row (by omega)
    subst e
    refine ⟨b, o + i * K.z, by rw [Option.map_some, add_at], hlt, fun j r hj => ?_⟩
    rw [List.getElem?_drop] at hj
    have := hc _ r hj
    rw [Nat.add_mul, ← Nat.add_assoc] at this
    exact this⟩
theorem RS.cut {K : Row α} {w : World} {A : Option Addr} {n c : Nat} {l : List α} (h : RS K w A n c l) {c' : Nat} (h1 : n ≤ c') (h2 : A = none → c' = 0) : RS K w A n c' l := ⟨h.len, h1, h2, h.row⟩
theorem OwnR.slice {K : Row α} {t : TypeId} {w : World} {base : Nat} {v : Value} {l : List α} (h : OwnR K t w base v l) : ∃ A c, v = .slice A l.length c ∧ RS K w A l.length c l := by
  obtain ⟨A, c, h1, h2, _⟩ := OwnR.rs K h
  exact ⟨A, c, h1, h2⟩
theorem info_parts {P : Program} {t : TypeId} {z : Value} {s b : Nat} (h : (P.info? t).map (fun i => (i.zero, i.size, i.bytes)) = some (some z, s, b)) : ∃ i, P.info? t = some i ∧ i.zero = some z ∧ i.size = s ∧ i.bytes = b := by
  cases hi : P.info? t with
  | none => rw [hi] at h; cases h
  | some i =>
    rw [hi] at h
    simp at h
    exact ⟨i, rfl, h.1, h.2.1, h.2.2⟩
/-- One or more rows behind a list of one's own. -/
theorem append_R (K : Row α) {P : Program} {w : World} {ops : Array Oper} {rest : List Oper} {o : Oper} {a : Act} {Q : Exit → Act → World → Prop} (hgd : o.guard = none) (s x : Operand) (ty t : TypeId)
    (ho : o.op = .call { callee := .builtin .append, args := #[s, x], argTypes := #[ty, ty] }) (hu : P.underlying ty = some (.slice t)) {zs : Array Value} {bytes : Nat} (hz : (P.info? t).map (fun i => (i.zero, i.size, i.bytes)) = some (some (.agg zs), K.z, bytes)) (hzs : zs.size = K.z) (hby : bytes ≤ 1000)
    (base : Nat) (v : Value) (l : List α) (hs : a.eval s = v) (hown : OwnR K t w base v l) (A : Option Addr) (m c : Nat) (l2 : List α) (hx : a.eval x = .slice A m c) (hi : RS K w A m c l2)
    (hm : l.length + m ≤ 2000000000) (hb : base ≤ w.heap.size)
    (h : ∀ v' w', OwnR K t w' base v' (l ++ l2) → w.grownBy w' v.ownBlock → wpList P ops Q rest (a.put o.dst v') w') : wpList P ops Q (o :: rest) a w := by
  obtain ⟨i0, h1, hz0, hz1, hz2⟩ := info_parts hz
  cases A with
  | none =>
    obtain rfl : c = 0 := hi.nil rfl
    obtain rfl : m = 0 := by have := hi.cap; omega
    have hz : l2 = [] := List.length_eq_zero_iff.1 hi.len
    subst hz
    refine wpList_append_own_none hgd s x ty ho base t i0 K.z hu h1 v l.length (flat K l) hs hown hx ?_
    exact h v w (by simpa using hown) ⟨rfl, rfl, rfl, Nat.le_refl _, fun _ _ _ => rfl⟩
  | some ad =>
    have hk : (l.length + m) * bytes ≤ 2000000000 * 1000 := Nat.mul_le_mul hm hby
    refine wpList_append_own w hgd s x ty ho base t i0 (.agg zs) K.z bytes hu h1 hz0 hz1 hz2 hzs K.pos v l.length (flat K l) hs hown ad m c (flat K l2) hx (by rw [flat_len K, hi.len]) (rs_news K hi) (flat_one K l2) (by unfold maxLen; omega) (by omega) hb ?_
    intro v' w' h2 h3 _
    refine h v' w' ?_ h3
    unfold OwnR
    rw [flat_app, List.length_append, hi.len]
    exact h2
theorem own_empty (K : Row α) (t : TypeId) (w : World) : OwnR K t (w.alloc (.cells #[] t)) w.heap.size (.slice (some ⟨w.heap.size, 0, none⟩) 0 0) [] :=
  World.ownsRow_made w #[] 0 (Nat.le_refl _) (Nat.zero_le _) (by rw [Nat.zero_mul]; rfl)
/-- A row of one, in a block of its own. -/
theorem rs_one (K : Row α) {w : World} {g : Nat} {t : TypeId} {r : α} (h : Blk w g (K.k r).toArray t) : RS K w (some ⟨g, 0, none⟩) 1 1 [r] :=
  rs_blk K h rfl (Nat.le_refl _) (by
    show (K.k r).toArray.toList.take (1 * K.z) = K.k r ++ []
    rw [List.append_nil, Nat.one_mul]
    exact List.take_of_length_le (by rw [← K.len r]; exact Nat.le_refl _))
/-- A load of a row, whether it is guarded or not. -/
theorem load_g {P : Program} {ops : Array Oper} {rest : List Oper} {o : Oper} {a : Act} {w : World} {Q : Exit → Act → World → Prop} (hw : Region.wanted o (yielded ops a.tmps) = true) (ty : TypeId) (x : Operand) (ho : o.op = .load ty x)
    (b q : Nat) (hx : a.eval x = .pointer (some ⟨b, q, none⟩)) (cs : List Value) (d : TypeDesc) (hc : w.rangeAt b q cs)
    (hu : P.underlying ty = some d) (hd : d.isRow = true) (hi : (P.info? ty).map (·.size) = some cs.length)
    (h : wpList P ops Q rest (a.put o.dst (.agg cs.toArray)) w) : wpList P ops Q (o :: rest) a w :=
  wpList_step fun K hK => by
    rw [if_pos hw]
    exact wp_load_mid ty x ho b q hx cs d hc hu hd hi (hK _ _ h)
end Rw
end Go.Proofs.YtcefjigbaglmeaaGreat
