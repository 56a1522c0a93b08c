/-
  The mathematics of the active set: who is richer, how many are ahead, heaps, and what the answers are. No condition.
-/
import Derived.Test.YtmbodfmdaocppaaPMem
namespace Go.Proofs.Ytmbodfmdaocppaa
set_option linter.unusedVariables false
set_option linter.unusedSimpArgs false
namespace Ac

/-- What is at a place of a list. -/
def tk (t : List Int) (i : Nat) : Int := t.getD i 0
def isb (m : List Bool) (i : Nat) : Bool := m.getD i false
/-- Does a validator count? -/
def cn (t : List Int) (m : List Bool) (i : Nat) : Bool := isb m i && decide (0 < tk t i)
/-- Is k richer than i? -/
def rich (t : List Int) (k i : Nat) : Bool := decide (tk t i < tk t k ∨ (tk t k = tk t i ∧ k < i))
theorem rich_t {t : List Int} {k i : Nat} : rich t k i = true ↔ (tk t i < tk t k ∨ (tk t k = tk t i ∧ k < i)) := decide_eq_true_iff
theorem rich_f {t : List Int} {k i : Nat} : rich t k i = false ↔ ¬ (tk t i < tk t k ∨ (tk t k = tk t i ∧ k < i)) := decide_eq_false_iff_not
theorem rich_irr (t : List Int) (i : Nat) : rich t i i = false := rich_f.2 (by omega)
theorem rich_asym {t : List Int} {a b : Nat} (h : rich t a b = true) : rich t b a = false := by
  rw [rich_t] at h; rw [rich_f]; omega
theorem rich_trans {t : List Int} {a b c : Nat} (h : rich t a b = true) (h' : rich t b c = true) : rich t a c = true := by
  rw [rich_t] at *; omega
theorem rich_ntrans {t : List Int} {a b c : Nat} (h : rich t a b = false) (h' : rich t b c = false) : rich t a c = false := by
  rw [rich_f] at *; omega
theorem rich_tri {t : List Int} {a b : Nat} (h : a ≠ b) (h' : rich t a b = false) : rich t b a = true := by
  rw [rich_f] at h'; rw [rich_t]; omega

/-- How many below n. -/
def cnt (p : Nat → Bool) : Nat → Nat
  | 0 => 0
  | n + 1 => cnt p n + if p n = true then 1 else 0
theorem cnt_le (p : Nat → Bool) : ∀ n, cnt p n ≤ n
  | 0 => Nat.le_refl _
  | n + 1 => by
    have := cnt_le p n
    show cnt p n + (if p n = true then 1 else 0) ≤ n + 1
    split <;> omega
theorem cnt_mono {p q : Nat → Bool} : ∀ {n : Nat}, (∀ k, k < n → p k = true → q k = true) → cnt p n ≤ cnt q n
  | 0, _ => Nat.le_refl _
  | n + 1, h => by
    have := cnt_mono (n := n) (fun k hk => h k (by omega))
    have h2 := h n (by omega)
    show cnt p n + (if p n = true then 1 else 0) ≤ cnt q n + (if q n = true then 1 else 0)
    by_cases hp : p n = true
    · rw [if_pos hp, if_pos (h2 hp)]; omega
    · rw [if_neg hp]; omega
theorem cnt_congr {p q : Nat → Bool} : ∀ {n : Nat}, (∀ k, k < n → p k = q k) → cnt p n = cnt q n
  | 0, _ => rfl
  | n + 1, h => by
    show cnt p n + (if p n = true then 1 else 0) = cnt q n + (if q n = true then 1 else 0)
    rw [cnt_congr (n := n) (fun k hk => h k (by omega)), h n (by omega)]
theorem cnt_lt {p q : Nat → Bool} : ∀ {n : Nat} {i : Nat}, (∀ k, k < n → p k = true → q k = true) → i < n → q i = true → p i = false → cnt p n < cnt q n
  | n + 1, i, h, hi, hq, hp => by
    show cnt p n + (if p n = true then 1 else 0) < cnt q n + (if q n = true then 1 else 0)
    by_cases hin : i = n
    · subst hin
      have := cnt_mono (p := p) (q := q) (n := i) (fun k hk => h k (by omega))
      rw [if_pos hq, if_neg (by rw [hp]; decide)]; omega
    · have := cnt_lt (n := n) (i := i) (fun k hk => h k (by omega)) (by omega) hq hp
      have h2 := h n (by omega)
      by_cases hp : p n = true
      · rw [if_pos hp, if_pos (h2 hp)]; omega
      · rw [if_neg hp]; omega
theorem cnt_out {p : Nat → Bool} {x : Nat} : ∀ {n : Nat}, x < n → p x = true → cnt p n = cnt (fun k => p k && decide (k ≠ x)) n + 1
  | n + 1, hx, hp => by
    show cnt p n + (if p n = true then 1 else 0) = cnt (fun k => p k && decide (k ≠ x)) n + (if (p n && decide (n ≠ x)) = true then 1 else 0) + 1
    by_cases hxn : x = n
    · subst hxn
      have he : cnt p x = cnt (fun k => p k && decide (k ≠ x)) x := cnt_congr fun k hk => by
        have : k ≠ x := by omega
        simp [this]
      rw [if_pos hp, if_neg (by simp), he]
    · have h1 := cnt_out (p := p) (x := x) (n := n) (by omega) hp
      have h2 : (p n && decide (n ≠ x)) = p n := by
        have : n ≠ x := fun e => hxn e.symm
        simp [this]
      rw [h2, h1]; omega
/-- A list of just those that are counted. -/
theorem cnt_list : ∀ {r : List Nat} {p : Nat → Bool} {n : Nat}, r.Nodup → (∀ x ∈ r, x < n) → (∀ k, k < n → (p k = true ↔ k ∈ r)) → cnt p n = r.length
  | [], p, n, _, _, h => by
    have : cnt p n = cnt (fun _ => false) n := cnt_congr fun k hk => by
      cases hp : p k with
      | false => rfl
      | true => exact absurd ((h k hk).1 hp) (by simp)
    rw [this]
    clear h this
    induction n with
    | zero => rfl
    | succ n ih => exact ih (fun _ h => by cases h)
  | x :: r, p, n, hd, hn, h => by
    have hx : x < n := hn x (by simp)
    rw [cnt_out hx ((h x hx).2 (by simp)), List.length_cons]
    rw [List.nodup_cons] at hd
    congr 1
    refine cnt_list hd.2 (fun y hy => hn y (by simp [hy])) fun k hk => ?_
    rw [Bool.and_eq_true, h k hk, decide_eq_true_iff]
    constructor
    · rintro ⟨h1, h2⟩
      rcases List.mem_cons.1 h1 with h | h
      · exact absurd h h2
      · exact h
    · intro h1
      exact ⟨by simp [h1], fun e => hd.1 (e ▸ h1)⟩

/-- How many are counted, and richer than i. -/
def all (t : List Int) (m : List Bool) : Nat := max t.length m.length
def ah (t : List Int) (m : List Bool) (i : Nat) : Nat := cnt (fun k => cn t m k && rich t k i) (all t m)
theorem tk_out {t : List Int} {i : Nat} (h : t.length ≤ i) : tk t i = 0 := by unfold tk; rw [List.getD_eq_getElem?_getD, List.getElem?_eq_none h]; rfl
theorem is_out {m : List Bool} {i : Nat} (h : m.length ≤ i) : isb m i = false := by unfold isb; rw [List.getD_eq_getElem?_getD, List.getElem?_eq_none h]; rfl
theorem cn_lt {t : List Int} {m : List Bool} {i : Nat} (h : cn t m i = true) : i < t.length ∧ i < m.length := by
  unfold cn at h
  rw [Bool.and_eq_true, decide_eq_true_iff] at h
  refine ⟨Decidable.byContradiction fun h' => ?_, Decidable.byContradiction fun h' => ?_⟩
  · rw [tk_out (by omega)] at h; omega
  · rw [is_out (by omega)] at h; exact absurd h.1 (by decide)
theorem cn_all {t : List Int} {m : List Bool} {i : Nat} (h : cn t m i = true) : i < all t m := by
  have := cn_lt h
  unfold all
  exact Nat.lt_of_lt_of_le this.1 (Nat.le_max_left _ _)
theorem ah_lt {t : List Int} {m : List Bool} {i j : Nat} (h : cn t m i = true) (hr : rich t i j = true) : ah t m i < ah t m j := by
  refine cnt_lt (i := i) (fun k _ hk => ?_) (cn_all h) (by rw [h, hr]; rfl) (by rw [rich_irr, Bool.and_false])
  rw [Bool.and_eq_true] at hk ⊢
  exact ⟨hk.1, rich_trans hk.2 hr⟩
theorem ah_inj {t : List Int} {m : List Bool} {i j : Nat} (hi : cn t m i = true) (hj : cn t m j = true) (h : ah t m i = ah t m j) : i = j := by
  refine Decidable.byContradiction fun hne => ?_
  cases hr : rich t i j with
  | true => have := ah_lt hi hr; omega
  | false => have := ah_lt hj (rich_tri hne hr); omega
theorem ah_rich {t : List Int} {m : List Bool} {i j : Nat} (hi : cn t m i = true) (hj : cn t m j = true) (h : ah t m i < ah t m j) : rich t i j = true := by
  cases hr : rich t i j with
  | true => rfl
  | false =>
    have hne : i ≠ j := fun e => by subst e; omega
    have := ah_lt hj (rich_tri hne hr); omega
/-- How many are counted. -/
def ct (t : List Int) (m : List Bool) : Nat := cnt (cn t m) (all t m)
theorem ah_ct {t : List Int} {m : List Bool} {i : Nat} (h : cn t m i = true) : ah t m i < ct t m :=
  cnt_lt (i := i) (fun k _ hk => by rw [Bool.and_eq_true] at hk; exact hk.1) (cn_all h) h (by rw [rich_irr, Bool.and_false])

/-- The answers. -/
def rk (t : List Int) (m : List Bool) : List Nat := (List.range (all t m)).flatMap fun n => (List.range (all t m)).filter fun i => cn t m i && decide (ah t m i = n)
def ch (t : List Int) (m : List Bool) (most : Int) : List Bool := (List.range (all t m)).map fun i => cn t m i && decide ((ah t m i : Int) < most)
theorem only_at {p : Nat → Bool} {a : Nat} : ∀ {n : Nat}, a < n → (∀ i, i < n → (p i = true ↔ i = a)) → (List.range n).filter p = [a]
  | n + 1, ha, h => by
    rw [List.range_succ, List.filter_append]
    by_cases han : a = n
    · subst han
      have h1 : (List.range a).filter p = [] := List.filter_eq_nil_iff.2 fun x hx hp => by
        have hx := List.mem_range.1 hx
        have := (h x (by omega)).1 hp
        omega
      have h2 : p a = true := (h a (by omega)).2 rfl
      rw [h1, List.filter_cons, if_pos h2]; rfl
    · have h2 : ¬ p n = true := fun hp => han ((h n (by omega)).1 hp).symm
      rw [only_at (n := n) (by omega) (fun i hi => h i (by omega)), List.filter_cons, if_neg h2]; rfl
theorem take_one (r : List Nat) (g : Nat → List Nat) (h1 : ∀ n x, r[n]? = some x → g n = [x]) (h2 : ∀ n, r.length ≤ n → g n = []) : ∀ k, (List.range k).flatMap g = r.take k
  | 0 => by simp
  | k + 1 => by
    rw [List.range_succ, List.flatMap_append, take_one r g h1 h2 k, List.take_add_one]
    congr 1
    show g k ++ [] = _
    rw [List.append_nil]
    cases hx : r[k]? with
    | none => exact h2 k (List.getElem?_eq_none_iff.1 hx)
    | some x => exact h1 k x hx
/-- A list whose k-th one has k ahead of it, and in which all are, is the answer. -/
theorem rk_of {t : List Int} {m : List Bool} {r : List Nat} (h1 : ∀ k x, r[k]? = some x → cn t m x = true ∧ ah t m x = k) (h2 : ∀ x, cn t m x = true → x ∈ r) : rk t m = r := by
  have hl : r.length ≤ all t m := by
    rcases Nat.eq_zero_or_pos r.length with h | h
    · omega
    · have h3 : r[r.length - 1]? = some r[r.length - 1] := List.getElem?_eq_getElem (by omega)
      have h4 := h1 _ _ h3
      have h5 := ah_ct h4.1
      have h6 : ct t m ≤ all t m := cnt_le _ _
      omega
  unfold rk
  rw [take_one r _ (fun n x hx => ?_) (fun n hn => ?_), List.take_of_length_le hl]
  · have h3 := h1 n x hx
    refine only_at (cn_all h3.1) fun i hi => ?_
    rw [Bool.and_eq_true, decide_eq_true_iff]
    constructor
    · rintro ⟨h4, h5⟩
      exact ah_inj h4 h3.1 (by omega)
    · rintro rfl
      exact ⟨h3.1, h3.2⟩
  · refine List.filter_eq_nil_iff.2 fun x hx hp => ?_
    rw [Bool.and_eq_true, decide_eq_true_iff] at hp
    obtain ⟨k, hk, e⟩ := List.getElem_of_mem (h2 x hp.1)
    have h3 := (h1 k x (by rw [List.getElem?_eq_getElem hk, e])).2
    omega

/-- Two of a list changed. -/
def sw (f : Nat → Nat) (i j : Nat) : Nat → Nat := fun k => if k = i then f j else if k = j then f i else f k
theorem sw_i (f : Nat → Nat) (i j : Nat) : sw f i j i = f j := if_pos rfl
theorem sw_j (f : Nat → Nat) (i j : Nat) : sw f i j j = f i := by
  unfold sw
  by_cases h : j = i
  · rw [if_pos h, h]
  · rw [if_neg h, if_pos rfl]
theorem sw_k {f : Nat → Nat} {i j k : Nat} (h : k ≠ i) (h' : k ≠ j) : sw f i j k = f k := by unfold sw; rw [if_neg h, if_neg h']
/-- A bag has just the numbers of S. -/
structure Bag (S : Nat → Prop) (f : Nat → Nat) (n : Nat) : Prop where
  inj : ∀ a b, a < n → b < n → f a = f b → a = b
  mem : ∀ v, S v ↔ ∃ k, k < n ∧ f k = v
def swp (i j k : Nat) : Nat := if k = i then j else if k = j then i else k
theorem sw_eq (f : Nat → Nat) (i j k : Nat) : sw f i j k = f (swp i j k) := by
  unfold sw swp
  split
  · rfl
  · split <;> rfl
theorem swp_swp (i j k : Nat) : swp i j (swp i j k) = k := by
  unfold swp
  by_cases h1 : k = i
  · by_cases h2 : j = i
    · simp [h1, h2]
    · simp [h1, h2]
  · by_cases h2 : k = j
    · simp [h1, h2]
    · simp [h1, h2]
theorem swp_lt {i j k n : Nat} (hi : i < n) (hj : j < n) (hk : k < n) : swp i j k < n := by
  unfold swp
  split
  · exact hj
  · split
    · exact hi
    · exact hk
theorem Bag.sw {S : Nat → Prop} {f : Nat → Nat} {n i j : Nat} (h : Bag S f n) (hi : i < n) (hj : j < n) : Bag S (sw f i j) n := by
  refine ⟨fun a b ha hb e => ?_, fun v => ?_⟩
  · rw [sw_eq, sw_eq] at e
    have h1 := h.inj _ _ (swp_lt hi hj ha) (swp_lt hi hj hb) e
    rw [← swp_swp i j a, h1, swp_swp]
  · rw [h.mem v]
    constructor
    · rintro ⟨k, hk, e⟩
      exact ⟨swp i j k, swp_lt hi hj hk, by rw [sw_eq, swp_swp]; exact e⟩
    · rintro ⟨k, hk, e⟩
      exact ⟨swp i j k, swp_lt hi hj hk, by rw [← sw_eq f i j k]; exact e⟩
/-- A heap: nobody is richer than who stands above. -/
def Heap (t : List Int) (f : Nat → Nat) (n : Nat) : Prop := ∀ i, 0 < i → i < n → rich t (f i) (f ((i - 1) / 2)) = false
structure Up (t : List Int) (f : Nat → Nat) (n j : Nat) : Prop where
  ord : ∀ i, 0 < i → i < n → i ≠ j → rich t (f i) (f ((i - 1) / 2)) = false
  hop : ∀ i, 0 < i → i < n → (i - 1) / 2 = j → 0 < j → rich t (f i) (f ((j - 1) / 2)) = false
structure Dn (t : List Int) (f : Nat → Nat) (n i : Nat) : Prop where
  ord : ∀ k, 0 < k → k < n → (k - 1) / 2 ≠ i → rich t (f k) (f ((k - 1) / 2)) = false
  hop : ∀ k, 0 < k → k < n → (k - 1) / 2 = i → 0 < i → rich t (f k) (f ((i - 1) / 2)) = false
theorem Up.step {t : List Int} {f : Nat → Nat} {n j p : Nat} (h : Up t f n j) (hj : 0 < j) (hn : j < n) (hp : (j - 1) / 2 = p) (hr : rich t (f j) (f p) = true) : Up t (sw f p j) n p := by
  refine ⟨fun i h0 hi hne => ?_, fun i h0 hi hq hp0 => ?_⟩
  · by_cases hij : i = j
    · rw [hij, hp, sw_j, sw_i]; exact rich_asym hr
    · rw [sw_k hne hij]
      by_cases hq : (i - 1) / 2 = p
      · rw [hq, sw_i]
        have h1 := h.ord i h0 hi hij
        rw [hq] at h1
        cases h2 : rich t (f i) (f j) with
        | false => rfl
        | true => rw [rich_trans h2 hr] at h1; cases h1
      · by_cases hq2 : (i - 1) / 2 = j
        · have h1 := h.hop i h0 hi hq2 hj
          rw [hq2, sw_j, ← hp]; exact h1
        · rw [sw_k hq hq2]; exact h.ord i h0 hi hij
  · have h1 := h.ord p hp0 (by omega) (by omega)
    rw [sw_k (k := (p - 1) / 2) (by omega) (by omega)]
    by_cases hij : i = j
    · rw [hij, sw_j]; exact h1
    · rw [sw_k (by omega) hij]
      have h2 := h.ord i h0 hi hij
      rw [hq] at h2
      exact rich_ntrans h2 h1
theorem Up.done {t : List Int} {f : Nat → Nat} {n j : Nat} (h : Up t f n j) (hr : j = 0 ∨ rich t (f j) (f ((j - 1) / 2)) = false) : Heap t f n := fun i h0 hi => by
  by_cases hij : i = j
  · subst hij
    rcases hr with hr | hr
    · omega
    · exact hr
  · exact h.ord i h0 hi hij
theorem Dn.step {t : List Int} {f : Nat → Nat} {n i j : Nat} (h : Dn t f n i) (h0 : 0 < j) (hj : j < n) (hp : (j - 1) / 2 = i) (hs : ∀ k, 0 < k → k < n → (k - 1) / 2 = i → rich t (f k) (f j) = false) (hr : rich t (f j) (f i) = true) : Dn t (sw f i j) n j := by
  refine ⟨fun k k0 hk hne => ?_, fun k k0 hk hq _ => ?_⟩
  · by_cases hki : k = i
    · have h1 := h.hop j h0 hj hp (by omega)
      rw [hki, sw_i, sw_k (k := (i - 1) / 2) (by omega) (by omega)]; exact h1
    · by_cases hkj : k = j
      · rw [hkj, sw_j, hp, sw_i]; exact rich_asym hr
      · rw [sw_k hki hkj]
        by_cases hq : (k - 1) / 2 = i
        · rw [hq, sw_i]; exact hs k k0 hk hq
        · rw [sw_k hq hne]; exact h.ord k k0 hk hq
  · have h1 := h.ord k k0 hk (by omega)
    rw [hq] at h1
    rw [sw_k (k := k) (by omega) (by omega), hp, sw_i]; exact h1
theorem Dn.done {t : List Int} {f : Nat → Nat} {n i : Nat} (h : Dn t f n i) (hs : ∀ k, 0 < k → k < n → (k - 1) / 2 = i → rich t (f k) (f i) = false) : Heap t f n := fun k k0 hk => by
  by_cases hq : (k - 1) / 2 = i
  · rw [hq]; exact hs k k0 hk hq
  · exact h.ord k k0 hk hq
theorem Heap.top {t : List Int} {f : Nat → Nat} {n : Nat} (h : Heap t f n) : ∀ k, k < n → rich t (f k) (f 0) = false := fun k => by
  induction k using Nat.strongRecOn with
  | ind k ih =>
    intro hk
    by_cases h0 : k = 0
    · subst h0; exact rich_irr _ _
    · exact rich_ntrans (h k (by omega) hk) (ih ((k - 1) / 2) (by omega) (by omega))
/-- One more at the end. -/
def snc (f : Nat → Nat) (n v : Nat) : Nat → Nat := fun k => if k = n then v else f k
theorem snc_n (f : Nat → Nat) (n v : Nat) : snc f n v n = v := if_pos rfl
theorem snc_k {f : Nat → Nat} {n v k : Nat} (h : k ≠ n) : snc f n v k = f k := if_neg h
theorem Bag.push {S : Nat → Prop} {f : Nat → Nat} {n v : Nat} (h : Bag S f n) (hv : ¬ S v) : Bag (fun x => S x ∨ x = v) (snc f n v) (n + 1) := by
  refine ⟨fun a b ha hb e => ?_, fun x => ?_⟩
  · by_cases h1 : a = n
    · by_cases h2 : b = n
      · omega
      · rw [h1, snc_n, snc_k h2] at e
        exact absurd ((h.mem v).2 ⟨b, by omega, e.symm⟩) hv
    · by_cases h2 : b = n
      · rw [h2, snc_n, snc_k h1] at e
        exact absurd ((h.mem v).2 ⟨a, by omega, e⟩) hv
      · rw [snc_k h1, snc_k h2] at e
        exact h.inj a b (by omega) (by omega) e
  · show S x ∨ x = v ↔ _
    rw [h.mem x]
    constructor
    · rintro (⟨k, hk, e⟩ | rfl)
      · exact ⟨k, by omega, by rw [snc_k (by omega)]; exact e⟩
      · exact ⟨n, by omega, snc_n _ _ _⟩
    · rintro ⟨k, hk, e⟩
      by_cases h1 : k = n
      · rw [h1, snc_n] at e; exact .inr e.symm
      · rw [snc_k h1] at e; exact .inl ⟨k, by omega, e⟩
theorem Heap.push {t : List Int} {f : Nat → Nat} {n v : Nat} (h : Heap t f n) : Up t (snc f n v) (n + 1) n := by
  refine ⟨fun i h0 hi hne => ?_, fun i h0 hi hq hn => by omega⟩
  rw [snc_k hne, snc_k (by omega)]; exact h i h0 (by omega)
/-- The first one taken out: it stands last, and the rest is a bag without it. -/
theorem Bag.pop {S : Nat → Prop} {f : Nat → Nat} {n : Nat} (h : Bag S f (n + 1)) : Bag (fun x => S x ∧ x ≠ f n) f n := by
  refine ⟨fun a b ha hb e => h.inj a b (by omega) (by omega) e, fun x => ?_⟩
  show S x ∧ x ≠ f n ↔ _
  rw [h.mem x]
  constructor
  · rintro ⟨⟨k, hk, rfl⟩, hne⟩
    exact ⟨k, Nat.lt_of_le_of_ne (by omega) (fun e => hne (by rw [e])), rfl⟩
  · rintro ⟨k, hk, rfl⟩
    exact ⟨⟨k, by omega, rfl⟩, fun e => by have := h.inj k n (by omega) (by omega) e; omega⟩
theorem Heap.dn {t : List Int} {f : Nat → Nat} {n : Nat} (h : Heap t f (n + 1)) : Dn t (sw f 0 n) n 0 := by
  refine ⟨fun k k0 hk hne => ?_, fun k k0 hk hq h0 => absurd h0 (by omega)⟩
  rw [sw_k (by omega) (by omega), sw_k hne (by omega)]; exact h k k0 (by omega)
end Ac
end Go.Proofs.Ytmbodfmdaocppaa
