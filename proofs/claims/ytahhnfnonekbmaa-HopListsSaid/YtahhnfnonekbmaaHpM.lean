/-
  What the lists of hops are, how many go a way, which are ripe: plain functions and their mathematics. No program.
-/
import Derived.Test.YtahhnfnonekbmaaRw
namespace Go.Proofs.Ytahhnfnonekbmaa
open Go.RowKit Go.Shelf
set_option linter.unusedVariables false
namespace Hp

/-- A hop: owner, src, dst, created. -/
abbrev R4 := Int × Int × Int × Int
def hC : R4 → List Value
  | (a, b, c, d) => [.int .i64 a, .int .i64 b, .int .i64 c, .int .i64 d]
def hR : Rw.Row R4 where
  k := hC
  z := 4
  len := fun _ => rfl
  one := fun r u hu => by
    obtain ⟨a, b, c, d⟩ := r
    simp [hC] at hu
    rcases hu with rfl | rfl | rfl | rfl <;> rfl
  pos := by decide
def may : R4 → Bool
  | (a, b, c, d) => decide (0 ≤ a ∧ a < 64 ∧ 0 ≤ b ∧ b < 32 ∧ 0 ≤ c ∧ c < 32 ∧ b ≠ c ∧ 1 ≤ d ∧ d ≤ 4294967296)
theorem may_iff (a b c d : Int) : may (a, b, c, d) = true ↔ 0 ≤ a ∧ a < 64 ∧ 0 ≤ b ∧ b < 32 ∧ 0 ≤ c ∧ c < 32 ∧ b ≠ c ∧ 1 ≤ d ∧ d ≤ 4294967296 := by simp [may]
def cr : R4 → Int
  | (_, _, _, d) => d
theorem may_cr {r : R4} (h : may r = true) : 1 ≤ cr r ∧ cr r ≤ 4294967296 := by
  obtain ⟨a, b, c, d⟩ := r
  have := (may_iff a b c d).1 h
  exact ⟨this.2.2.2.2.2.2.2.1, this.2.2.2.2.2.2.2.2⟩
/-- The error of a hop behind one that was created at b. -/
def hE (b : Int) (r : R4) : Int := if may r = false then 3 else if cr r < b then 9 else 0
theorem hE_ok {b : Int} {r : R4} (h : hE b r = 0) : may r = true ∧ b ≤ cr r := by
  unfold hE at h
  by_cases h1 : may r = false
  · rw [if_pos h1] at h; cases h
  · rw [if_neg h1] at h
    by_cases h2 : cr r < b
    · rw [if_pos h2] at h; cases h
    · exact ⟨by simpa using h1, by omega⟩
theorem hE_mk {b : Int} {r : R4} (h1 : may r = true) (h2 : b ≤ cr r) : hE b r = 0 := by
  unfold hE
  rw [if_neg (by rw [h1]; decide), if_neg (by omega)]
def ck : Int → List R4 → Nat → Int × Nat
  | _, [], _ => (0, 0)
  | b, r :: l, i => if hE b r = 0 then ck (cr r) l (i + 1) else (hE b r, i)
/-- The height ahead of the hop i. -/
def bef (b : Int) (l : List R4) : Nat → Int
  | 0 => b
  | j + 1 => (l[j]?).elim 0 cr
theorem bef_cons (b : Int) (y : R4) (l : List R4) : ∀ j, bef b (y :: l) (j + 1) = bef (cr y) l j
  | 0 => rfl
  | j + 1 => rfl
theorem bef_succ {b : Int} {l : List R4} {k : Nat} {r : R4} (h : l[k]? = some r) : bef b l (k + 1) = cr r := by
  show (l[k]?).elim 0 cr = _
  rw [h]; rfl
theorem ck_at : ∀ (l : List R4) (b : Int) (i k : Nat) (r : R4), (∀ (j : Nat) (x : R4), j < k → l[j]? = some x → hE (bef b l j) x = 0) → l[k]? = some r → hE (bef b l k) r ≠ 0 → ck b l i = (hE (bef b l k) r, i + k)
  | [], b, i, k, r, _, h, _ => by simp at h
  | y :: l, b, i, 0, r, _, h, h0 => by
    simp at h; subst h
    exact if_neg h0
  | y :: l, b, i, k + 1, r, hz, h, h0 => by
    have h1 : hE b y = 0 := hz 0 y (by omega) rfl
    show (if hE b y = 0 then ck (cr y) l (i + 1) else _) = _
    rw [if_pos h1, bef_cons]
    rw [bef_cons] at h0
    rw [ck_at l (cr y) (i + 1) k r (fun j x hj hx => by rw [← bef_cons b]; exact hz (j + 1) x (by omega) (by simpa using hx)) (by simpa using h) h0]
    congr 1
    omega
theorem ck_end : ∀ (l : List R4) (b : Int) (i : Nat), (∀ (j : Nat) (x : R4), l[j]? = some x → hE (bef b l j) x = 0) → ck b l i = (0, 0)
  | [], b, i, _ => rfl
  | y :: l, b, i, hz => by
    show (if hE b y = 0 then ck (cr y) l (i + 1) else _) = _
    rw [if_pos (show hE b y = 0 from hz 0 y rfl)]
    exact ck_end l (cr y) (i + 1) (fun j x hx => by rw [← bef_cons b]; exact hz (j + 1) x (by simpa using hx))
/-- In order: each may be, none is created ahead of the one before. -/
def Srt (b : Int) : List R4 → Prop
  | [] => True
  | r :: l => may r = true ∧ b ≤ cr r ∧ Srt (cr r) l
theorem ck_srt : ∀ (l : List R4) (b : Int) (i : Nat), (ck b l i).1 = 0 → Srt b l
  | [], b, i, _ => trivial
  | y :: l, b, i, h => by
    by_cases h1 : hE b y = 0
    · have h' : ck b (y :: l) i = ck (cr y) l (i + 1) := if_pos h1
      rw [h'] at h
      exact ⟨(hE_ok h1).1, (hE_ok h1).2, ck_srt l (cr y) (i + 1) h⟩
    · have h' : ck b (y :: l) i = (hE b y, i) := if_neg h1
      rw [h'] at h
      exact absurd h h1
theorem srt_ck : ∀ (l : List R4) (b : Int) (i : Nat), Srt b l → ck b l i = (0, 0)
  | [], b, i, _ => rfl
  | y :: l, b, i, h => by
    show (if hE b y = 0 then ck (cr y) l (i + 1) else _) = _
    rw [if_pos (hE_mk h.1 h.2.1)]
    exact srt_ck l (cr y) (i + 1) h.2.2
theorem srt_le : ∀ (l : List R4) (b : Int), Srt b l → ∀ r ∈ l, may r = true ∧ b ≤ cr r
  | [], b, _, r, hr => by cases hr
  | y :: l, b, h, r, hr => by
    rcases List.mem_cons.1 hr with rfl | hr
    · exact ⟨h.1, h.2.1⟩
    · have := srt_le l (cr y) h.2.2 r hr
      exact ⟨this.1, Int.le_trans h.2.1 this.2⟩
theorem srt_snoc : ∀ (l : List R4) (b : Int) (x : R4), Srt b (l ++ [x]) ↔ Srt b l ∧ may x = true ∧ bef b l l.length ≤ cr x
  | [], b, x => ⟨fun h => ⟨trivial, h.1, h.2.1⟩, fun h => ⟨h.2.1, h.2.2, trivial⟩⟩
  | y :: l, b, x => by
    show (may y = true ∧ b ≤ cr y ∧ Srt (cr y) (l ++ [x])) ↔ (may y = true ∧ b ≤ cr y ∧ Srt (cr y) l) ∧ may x = true ∧ bef b (y :: l) (l.length + 1) ≤ cr x
    rw [srt_snoc l (cr y) x, bef_cons]
    constructor
    · rintro ⟨h1, h2, h3, h4, h5⟩
      exact ⟨⟨h1, h2, h3⟩, h4, h5⟩
    · rintro ⟨⟨h1, h2, h3⟩, h4, h5⟩
      exact ⟨h1, h2, h3, h4, h5⟩
theorem srt_get : ∀ (l : List R4) (b : Int), Srt b l → ∀ (i j : Nat) (x y : R4), i ≤ j → l[i]? = some x → l[j]? = some y → cr x ≤ cr y
  | [], b, _, i, j, x, y, _, h, _ => by simp at h
  | r :: l, b, h, 0, j, x, y, _, hx, hy => by
    simp at hx; subst hx
    cases j with
    | zero => simp at hy; subst hy; exact Int.le_refl _
    | succ j => exact (srt_le l (cr r) h.2.2 y (List.mem_of_getElem? (by simpa using hy))).2
  | r :: l, b, h, i + 1, 0, x, y, hij, _, _ => by omega
  | r :: l, b, h, i + 1, j + 1, x, y, hij, hx, hy => srt_get l (cr r) h.2.2 i j x y (by omega) (by simpa using hx) (by simpa using hy)
/-- What Check tells: the error, and where. -/
def chk (l : List R4) : Int × Nat := if 4096 < l.length then (4, 4096) else ck 0 l 0
def Ok (l : List R4) : Prop := l.length ≤ 4096 ∧ Srt 0 l
theorem chk_ok {l : List R4} : (chk l).1 = 0 ↔ Ok l := by
  unfold chk Ok
  by_cases h : 4096 < l.length
  · rw [if_pos h]
    exact ⟨fun h' => (by cases h'), fun h' => absurd h'.1 (by omega)⟩
  · rw [if_neg h]
    exact ⟨fun h' => ⟨by omega, ck_srt l 0 0 h'⟩, fun h' => by rw [srt_ck l 0 0 h'.2]⟩
theorem chk_zero {l : List R4} (h : Ok l) : chk l = (0, 0) := by
  unfold chk
  rw [if_neg (by have := h.1; omega), srt_ck l 0 0 h.2]
theorem chk_one (x : R4) : (chk [x]).1 = 0 ↔ may x = true := by
  rw [chk_ok]
  exact ⟨fun h => h.2.1, fun h => ⟨by simp, h, by have := (may_cr h).1; omega, trivial⟩⟩

/-- Does a hop go that way? -/
def goes (o s d : Int) : R4 → Bool
  | (a, b, c, _) => decide (a = o ∧ b = s ∧ c = d)
def cnt (l : List R4) (o s d : Int) : Nat := (l.filter (goes o s d)).length
theorem cnt_le (l : List R4) (o s d : Int) : cnt l o s d ≤ l.length := List.length_filter_le _ _
theorem cnt_take {l : List R4} {k : Nat} {r : R4} (h : l[k]? = some r) (o s d : Int) : cnt (l.take (k + 1)) o s d = cnt (l.take k) o s d + (if goes o s d r = true then 1 else 0) := by
  unfold cnt
  rw [List.take_add_one, h, List.filter_append, List.length_append]
  congr 1
  show (List.filter (goes o s d) [r]).length = _
  by_cases hq : goes o s d r = true <;> simp [hq]
theorem cnt_snoc (l : List R4) (r : R4) (o s d : Int) : cnt (l ++ [r]) o s d = cnt l o s d + (if goes o s d r = true then 1 else 0) := by
  unfold cnt
  rw [List.filter_append, List.length_append]
  congr 1
  by_cases hq : goes o s d r = true <;> simp [hq]
def into (o d : Int) : R4 → Bool
  | (a, _, c, _) => decide (a = o ∧ c = d)
/-- What Add tells: its error. -/
def addE (l : List R4) (x : R4) (m : Int) : Int :=
  if (chk l).1 ≠ 0 then (chk l).1 else if may x = false ∨ m < 1 ∨ 16 < m then 3 else if cr x < bef 0 l l.length then 9 else if m ≤ cnt l x.1 x.2.1 x.2.2.1 then 22 else if l.length = 4096 then 4 else 0
def addL (l : List R4) (x : R4) (m : Int) : List R4 := if addE l x m = 0 then l ++ [x] else []
theorem add_ways (l : List R4) (x : R4) (m : Int) : ((chk l).1 ≠ 0 → addE l x m = (chk l).1) ∧ ((chk l).1 = 0 → (may x = false ∨ m < 1 ∨ 16 < m) → addE l x m = 3) ∧ ((chk l).1 = 0 → ¬ (may x = false ∨ m < 1 ∨ 16 < m) → cr x < bef 0 l l.length → addE l x m = 9) ∧
    ((chk l).1 = 0 → ¬ (may x = false ∨ m < 1 ∨ 16 < m) → ¬ cr x < bef 0 l l.length → m ≤ cnt l x.1 x.2.1 x.2.2.1 → addE l x m = 22) ∧
    ((chk l).1 = 0 → ¬ (may x = false ∨ m < 1 ∨ 16 < m) → ¬ cr x < bef 0 l l.length → ¬ m ≤ cnt l x.1 x.2.1 x.2.2.1 → l.length = 4096 → addE l x m = 4) ∧
    ((chk l).1 = 0 → ¬ (may x = false ∨ m < 1 ∨ 16 < m) → ¬ cr x < bef 0 l l.length → ¬ m ≤ cnt l x.1 x.2.1 x.2.2.1 → ¬ l.length = 4096 → addE l x m = 0) := by
  unfold addE
  refine ⟨fun h => if_pos h, fun h1 h2 => ?_, fun h1 h2 h3 => ?_, fun h1 h2 h3 h4 => ?_, fun h1 h2 h3 h4 h5 => ?_, fun h1 h2 h3 h4 h5 => ?_⟩
  · rw [if_neg (by rw [h1]; decide), if_pos h2]
  · rw [if_neg (by rw [h1]; decide), if_neg h2, if_pos h3]
  · rw [if_neg (by rw [h1]; decide), if_neg h2, if_neg h3, if_pos h4]
  · rw [if_neg (by rw [h1]; decide), if_neg h2, if_neg h3, if_neg h4, if_pos h5]
  · rw [if_neg (by rw [h1]; decide), if_neg h2, if_neg h3, if_neg h4, if_neg h5]
theorem addL_ne {l : List R4} {x : R4} {m : Int} (h : addE l x m ≠ 0) : addL l x m = [] := if_neg h
theorem addL_eq {l : List R4} {x : R4} {m : Int} (h : addE l x m = 0) : addL l x m = l ++ [x] := if_pos h

/-- The ripe ones, and the others, by the last height that is ripe. -/
def rip (l : List R4) (m : Int) : List R4 := l.filter fun r => decide (cr r ≤ m)
def lft (l : List R4) (m : Int) : List R4 := l.filter fun r => decide (m < cr r)
def ripE (l : List R4) (h u : Int) : Int := if (chk l).1 ≠ 0 then (chk l).1 else if ¬ (1 ≤ h ∧ h ≤ 4294967296 ∧ 1 ≤ u ∧ u ≤ 1048576) then 3 else 0
def ripL (l : List R4) (h u : Int) : List R4 := if ripE l h u = 0 then rip l (h - u) else []
def lftL (l : List R4) (h u : Int) : List R4 := if ripE l h u = 0 then lft l (h - u) else []
theorem rip_at : ∀ (l : List R4) (b : Int), Srt b l → ∀ (m : Int) (n : Nat), n ≤ l.length → (∀ (i : Nat) (x : R4), i < n → l[i]? = some x → cr x ≤ m) → (∀ (i : Nat) (x : R4), n ≤ i → l[i]? = some x → m < cr x) → rip l m = l.take n ∧ lft l m = l.drop n := by
  intro l b hs m n hn h1 h2
  have e1 : ∀ r ∈ l.take n, cr r ≤ m := fun r hr => by
    obtain ⟨i, hi, rfl⟩ := List.getElem_of_mem hr
    rw [List.length_take] at hi
    exact h1 i _ (by omega) (by rw [List.getElem_take]; exact List.getElem?_eq_getElem _)
  have e2 : ∀ r ∈ l.drop n, m < cr r := fun r hr => by
    obtain ⟨i, hi, rfl⟩ := List.getElem_of_mem hr
    rw [List.length_drop] at hi
    exact h2 (n + i) _ (by omega) (by rw [List.getElem_drop]; exact List.getElem?_eq_getElem _)
  have e : l = l.take n ++ l.drop n := (List.take_append_drop n l).symm
  constructor
  · unfold rip
    conv => lhs; rw [e]
    rw [List.filter_append, List.filter_eq_self.2 (fun r hr => decide_eq_true (e1 r hr)), List.filter_eq_nil_iff.2 (fun r hr => by have := e2 r hr; simp; omega), List.append_nil]
  · unfold lft
    conv => lhs; rw [e]
    rw [List.filter_append, List.filter_eq_nil_iff.2 (fun r hr => by have := e1 r hr; simp; omega), List.filter_eq_self.2 (fun r hr => decide_eq_true (e2 r hr)), List.nil_append]
/-- What Next tells. -/
def nxt (l : List R4) (u : Int) : Int × Bool := if (chk l).1 = 0 ∧ 0 < l.length ∧ 1 ≤ u ∧ u ≤ 1048576 then ((l[0]?).elim 0 cr + u, true) else (0, false)
end Hp
end Go.Proofs.Ytahhnfnonekbmaa
