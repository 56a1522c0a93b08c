/-
  Texts of this claim, put together: HpM, Hp1, RwEq15, Hp2, HpM2, Hp3. What each one says, and under which conditions, stands ahead of it.
-/
import Derived.WalkMore
import Derived.Laws.StructEq
import Derived.ChangeKeysEq
import Derived.Test.YtahhnfnonekbmaaGRw

section
/-
  What the lists of hops are, how many go a way, which are ripe: plain functions and their mathematics. No program.
-/
namespace Go.Proofs.Ytahhnfnonekbmaa
open Go.RowKit Go.Shelf
set_option linter.unusedVariables false
namespace Hp

/-- A hop: owner, src, dst, created. -/
abbrev R4 := Int × Int × Int × Int
def hC : R4 → List Value
  | (a, b, c, d) => [.int .i64 a, .int .i64 b, .int .i64 c, .int .i64 d]
def hR : Rw.Row R4 where
  k := hC
  z := 4
  len := fun _ => rfl
  one := fun r u hu => by
    obtain ⟨a, b, c, d⟩ := r
    simp [hC] at hu
    rcases hu with rfl | rfl | rfl | rfl <;> rfl
  pos := by decide
def may : R4 → Bool
  | (a, b, c, d) => decide (0 ≤ a ∧ a < 64 ∧ 0 ≤ b ∧ b < 32 ∧ 0 ≤ c ∧ c < 32 ∧ b ≠ c ∧ 1 ≤ d ∧ d ≤ 4294967296)
theorem may_iff (a b c d : Int) : may (a, b, c, d) = true ↔ 0 ≤ a ∧ a < 64 ∧ 0 ≤ b ∧ b < 32 ∧ 0 ≤ c ∧ c < 32 ∧ b ≠ c ∧ 1 ≤ d ∧ d ≤ 4294967296 := by simp [may]
def cr : R4 → Int
  | (_, _, _, d) => d
theorem may_cr {r : R4} (h : may r = true) : 1 ≤ cr r ∧ cr r ≤ 4294967296 := by
  obtain ⟨a, b, c, d⟩ := r
  have := (may_iff a b c d).1 h
  exact ⟨this.2.2.2.2.2.2.2.1, this.2.2.2.2.2.2.2.2⟩
/-- The error of a hop behind one that was created at b. -/
def hE (b : Int) (r : R4) : Int := if may r = false then 3 else if cr r < b then 9 else 0
theorem hE_ok {b : Int} {r : R4} (h : hE b r = 0) : may r = true ∧ b ≤ cr r := by
  unfold hE at h
  by_cases h1 : may r = false
  · rw [if_pos h1] at h; cases h
  · rw [if_neg h1] at h
    by_cases h2 : cr r < b
    · rw [if_pos h2] at h; cases h
    · exact ⟨by simpa using h1, by omega⟩
theorem hE_mk {b : Int} {r : R4} (h1 : may r = true) (h2 : b ≤ cr r) : hE b r = 0 := by
  unfold hE
  rw [if_neg (by rw [h1]; decide), if_neg (by omega)]
def ck : Int → List R4 → Nat → Int × Nat
  | _, [], _ => (0, 0)
  | b, r :: l, i => if hE b r = 0 then ck (cr r) l (i + 1) else (hE b r, i)
/-- The height ahead of the hop i. -/
def bef (b : Int) (l : List R4) : Nat → Int
  | 0 => b
  | j + 1 => (l[j]?).elim 0 cr
theorem bef_cons (b : Int) (y : R4) (l : List R4) : ∀ j, bef b (y :: l) (j + 1) = bef (cr y) l j
  | 0 => rfl
  | j + 1 => rfl
theorem bef_succ {b : Int} {l : List R4} {k : Nat} {r : R4} (h : l[k]? = some r) : bef b l (k + 1) = cr r := by
  show (l[k]?).elim 0 cr = _
  rw [h]; rfl
theorem ck_at : ∀ (l : List R4) (b : Int) (i k : Nat) (r : R4), (∀ (j : Nat) (x : R4), j < k → l[j]? = some x → hE (bef b l j) x = 0) → l[k]? = some r → hE (bef b l k) r ≠ 0 → ck b l i = (hE (bef b l k) r, i + k)
  | [], b, i, k, r, _, h, _ => by simp at h
  | y :: l, b, i, 0, r, _, h, h0 => by
    simp at h; subst h
    exact if_neg h0
  | y :: l, b, i, k + 1, r, hz, h, h0 => by
    have h1 : hE b y = 0 := hz 0 y (by omega) rfl
    show (if hE b y = 0 then ck (cr y) l (i + 1) else _) = _
    rw [if_pos h1, bef_cons]
    rw [bef_cons] at h0
    rw [ck_at l (cr y) (i + 1) k r (fun j x hj hx => by rw [← bef_cons b]; exact hz (j + 1) x (by omega) (by simpa using hx)) (by simpa using h) h0]
    congr 1
    omega
theorem ck_end : ∀ (l : List R4) (b : Int) (i : Nat), (∀ (j : Nat) (x : R4), l[j]? = some x → hE (bef b l j) x = 0) → ck b l i = (0, 0)
  | [], b, i, _ => rfl
  | y :: l, b, i, hz => by
    show (if hE b y = 0 then ck (cr y) l (i + 1) else _) = _
    rw [if_pos (show hE b y = 0 from hz 0 y rfl)]
    exact ck_end l (cr y) (i + 1) (fun j x hx => by rw [← bef_cons b]; exact hz (j + 1) x (by simpa using hx))
/-- In order: each may be, none is created ahead of the one before. -/
def Srt (b : Int) : List R4 → Prop
  | [] => True
  | r :: l => may r = true ∧ b ≤ cr r ∧ Srt (cr r) l
theorem ck_srt : ∀ (l : List R4) (b : Int) (i : Nat), (ck b l i).1 = 0 → Srt b l
  | [], b, i, _ => trivial
  | y :: l, b, i, h => by
    by_cases h1 : hE b y = 0
    · have h' : ck b (y :: l) i = ck (cr y) l (i + 1) := if_pos h1
      rw [h'] at h
      exact ⟨(hE_ok h1).1, (hE_ok h1).2, ck_srt l (cr y) (i + 1) h⟩
    · have h' : ck b (y :: l) i = (hE b y, i) := if_neg h1
      rw [h'] at h
      exact absurd h h1
theorem srt_ck : ∀ (l : List R4) (b : Int) (i : Nat), Srt b l → ck b l i = (0, 0)
  | [], b, i, _ => rfl
  | y :: l, b, i, h => by
    show (if hE b y = 0 then ck (cr y) l (i + 1) else _) = _
    rw [if_pos (hE_mk h.1 h.2.1)]
    exact srt_ck l (cr y) (i + 1) h.2.2
theorem srt_le : ∀ (l : List R4) (b : Int), Srt b l → ∀ r ∈ l, may r = true ∧ b ≤ cr r
  | [], b, _, r, hr => by cases hr
  | y :: l, b, h, r, hr => by
    rcases List.mem_cons.1 hr with rfl | hr
    · exact ⟨h.1, h.2.1⟩
    · have := srt_le l (cr y) h.2.2 r hr
      exact ⟨this.1, Int.le_trans h.2.1 this.2⟩
theorem srt_snoc : ∀ (l : List R4) (b : Int) (x : R4), Srt b (l ++ [x]) ↔ Srt b l ∧ may x = true ∧ bef b l l.length ≤ cr x
  | [], b, x => ⟨fun h => ⟨trivial, h.1, h.2.1⟩, fun h => ⟨h.2.1, h.2.2, trivial⟩⟩
  | y :: l, b, x => by
    show (may y = true ∧ b ≤ cr y ∧ Srt (cr y) (l ++ [x])) ↔ (may y = true ∧ b ≤ cr y ∧ Srt (cr y) l) ∧ may x = true ∧ bef b (y :: l) (l.length + 1) ≤ cr x
    rw [srt_snoc l (cr y) x, bef_cons]
    constructor
    · rintro ⟨h1, h2, h3, h4, h5⟩
      exact ⟨⟨h1, h2, h3⟩, h4, h5⟩
    · rintro ⟨⟨h1, h2, h3⟩, h4, h5⟩
      exact ⟨h1, h2, h3, h4, h5⟩
theorem srt_get : ∀ (l : List R4) (b : Int), Srt b l → ∀ (i j : Nat) (x y : R4), i ≤ j → l[i]? = some x → l[j]? = some y → cr x ≤ cr y
  | [], b, _, i, j, x, y, _, h, _ => by simp at h
  | r :: l, b, h, 0, j, x, y, _, hx, hy => by
    simp at hx; subst hx
    cases j with
    | zero => simp at hy; subst hy; exact Int.le_refl _
    | succ j => exact (srt_le l (cr r) h.2.2 y (List.mem_of_getElem? (by simpa using hy))).2
  | r :: l, b, h, i + 1, 0, x, y, hij, _, _ => by omega
  | r :: l, b, h, i + 1, j + 1, x, y, hij, hx, hy => srt_get l (cr r) h.2.2 i j x y (by omega) (by simpa using hx) (by simpa using hy)
/-- What Check tells: the error, and where. -/
def chk (l : List R4) : Int × Nat := if 4096 < l.length then (4, 4096) else ck 0 l 0
def Ok (l : List R4) : Prop := l.length ≤ 4096 ∧ Srt 0 l
theorem chk_ok {l : List R4} : (chk l).1 = 0 ↔ Ok l := by
  unfold chk Ok
  by_cases h : 4096 < l.length
  · rw [if_pos h]
    exact ⟨fun h' => (by cases h'), fun h' => absurd h'.1 (by omega)⟩
  · rw [if_neg h]
    exact ⟨fun h' => ⟨by omega, ck_srt l 0 0 h'⟩, fun h' => by rw [srt_ck l 0 0 h'.2]⟩
theorem chk_zero {l : List R4} (h : Ok l) : chk l = (0, 0) := by
  unfold chk
  rw [if_neg (by have := h.1; omega), srt_ck l 0 0 h.2]
theorem chk_one (x : R4) : (chk [x]).1 = 0 ↔ may x = true := by
  rw [chk_ok]
  exact ⟨fun h => h.2.1, fun h => ⟨by simp, h, by have := (may_cr h).1; omega, trivial⟩⟩

/-- Does a hop go that way? -/
def goes (o s d : Int) : R4 → Bool
  | (a, b, c, _) => decide (a = o ∧ b = s ∧ c = d)
def cnt (l : List R4) (o s d : Int) : Nat := (l.filter (goes o s d)).length
theorem cnt_le (l : List R4) (o s d : Int) : cnt l o s d ≤ l.length := List.length_filter_le _ _
theorem cnt_take {l : List R4} {k : Nat} {r : R4} (h : l[k]? = some r) (o s d : Int) : cnt (l.take (k + 1)) o s d = cnt (l.take k) o s d + (if goes o s d r = true then 1 else 0) := by
  unfold cnt
  rw [List.take_add_one, h, List.filter_append, List.length_append]
  congr 1
  show (List.filter (goes o s d) [r]).length = _
  by_cases hq : goes o s d r = true <;> simp [hq]
theorem cnt_snoc (l : List R4) (r : R4) (o s d : Int) : cnt (l ++ [r]) o s d = cnt l o s d + (if goes o s d r = true then 1 else 0) := by
  unfold cnt
  rw [List.filter_append, List.length_append]
  congr 1
  by_cases hq : goes o s d r = true <;> simp [hq]
def into (o d : Int) : R4 → Bool
  | (a, _, c, _) => decide (a = o ∧ c = d)
/-- What Add tells: its error. -/
def addE (l : List R4) (x : R4) (m : Int) : Int :=
  if (chk l).1 ≠ 0 then (chk l).1 else if may x = false ∨ m < 1 ∨ 16 < m then 3 else if cr x < bef 0 l l.length then 9 else if m ≤ cnt l x.1 x.2.1 x.2.2.1 then 22 else if l.length = 4096 then 4 else 0
def addL (l : List R4) (x : R4) (m : Int) : List R4 := if addE l x m = 0 then l ++ [x] else []
theorem add_ways (l : List R4) (x : R4) (m : Int) : ((chk l).1 ≠ 0 → addE l x m = (chk l).1) ∧ ((chk l).1 = 0 → (may x = false ∨ m < 1 ∨ 16 < m) → addE l x m = 3) ∧ ((chk l).1 = 0 → ¬ (may x = false ∨ m < 1 ∨ 16 < m) → cr x < bef 0 l l.length → addE l x m = 9) ∧
    ((chk l).1 = 0 → ¬ (may x = false ∨ m < 1 ∨ 16 < m) → ¬ cr x < bef 0 l l.length → m ≤ cnt l x.1 x.2.1 x.2.2.1 → addE l x m = 22) ∧
    ((chk l).1 = 0 → ¬ (may x = false ∨ m < 1 ∨ 16 < m) → ¬ cr x < bef 0 l l.length → ¬ m ≤ cnt l x.1 x.2.1 x.2.2.1 → l.length = 4096 → addE l x m = 4) ∧
    ((chk l).1 = 0 → ¬ (may x = false ∨ m < 1 ∨ 16 < m) → ¬ cr x < bef 0 l l.length → ¬ m ≤ cnt l x.1 x.2.1 x.2.2.1 → ¬ l.length = 4096 → addE l x m = 0) := by
  unfold addE
  refine ⟨fun h => if_pos h, fun h1 h2 => ?_, fun h1 h2 h3 => ?_, fun h1 h2 h3 h4 => ?_, fun h1 h2 h3 h4 h5 => ?_, fun h1 h2 h3 h4 h5 => ?_⟩
  · rw [if_neg (by rw [h1]; decide), if_pos h2]
  · rw [if_neg (by rw [h1]; decide), if_neg h2, if_pos h3]
  · rw [if_neg (by rw [h1]; decide), if_neg h2, if_neg h3, if_pos h4]
  · rw [if_neg (by rw [h1]; decide), if_neg h2, if_neg h3, if_neg h4, if_pos h5]
  · rw [if_neg (by rw [h1]; decide), if_neg h2, if_neg h3, if_neg h4, if_neg h5]
theorem addL_ne {l : List R4} {x : R4} {m : Int} (h : addE l x m ≠ 0) : addL l x m = [] := if_neg h
theorem addL_eq {l : List R4} {x : R4} {m : Int} (h : addE l x m = 0) : addL l x m = l ++ [x] := if_pos h

/-- The ripe ones, and the others, by the last height that is ripe. -/
def rip (l : List R4) (m : Int) : List R4 := l.filter fun r => decide (cr r ≤ m)
def lft (l : List R4) (m : Int) : List R4 := l.filter fun r => decide (m < cr r)
def ripE (l : List R4) (h u : Int) : Int := if (chk l).1 ≠ 0 then (chk l).1 else if ¬ (1 ≤ h ∧ h ≤ 4294967296 ∧ 1 ≤ u ∧ u ≤ 1048576) then 3 else 0
def ripL (l : List R4) (h u : Int) : List R4 := if ripE l h u = 0 then rip l (h - u) else []
def lftL (l : List R4) (h u : Int) : List R4 := if ripE l h u = 0 then lft l (h - u) else []
theorem rip_at : ∀ (l : List R4) (b : Int), Srt b l → ∀ (m : Int) (n : Nat), n ≤ l.length → (∀ (i : Nat) (x : R4), i < n → l[i]? = some x → cr x ≤ m) → (∀ (i : Nat) (x : R4), n ≤ i → l[i]? = some x → m < cr x) → rip l m = l.take n ∧ lft l m = l.drop n := by
  intro l b hs m n hn h1 h2
  have e1 : ∀ r ∈ l.take n, cr r ≤ m := fun r hr => by
    obtain ⟨i, hi, rfl⟩ := List.getElem_of_mem hr
    rw [List.length_take] at hi
    exact h1 i _ (by omega) (by rw [List.getElem_take]; exact List.getElem?_eq_getElem _)
  have e2 : ∀ r ∈ l.drop n, m < cr r := fun r hr => by
    obtain ⟨i, hi, rfl⟩ := List.getElem_of_mem hr
    rw [List.length_drop] at hi
    exact h2 (n + i) _ (by omega) (by rw [List.getElem_drop]; exact List.getElem?_eq_getElem _)
  have e : l = l.take n ++ l.drop n := (List.take_append_drop n l).symm
  constructor
  · unfold rip
    conv => lhs; rw [e]
    rw [List.filter_append, List.filter_eq_self.2 (fun r hr => decide_eq_true (e1 r hr)), List.filter_eq_nil_iff.2 (fun r hr => by have := e2 r hr; simp; omega), List.append_nil]
  · unfold lft
    conv => lhs; rw [e]
    rw [List.filter_append, List.filter_eq_nil_iff.2 (fun r hr => by have := e1 r hr; simp; omega), List.filter_eq_self.2 (fun r hr => decide_eq_true (e2 r hr)), List.nil_append]
/-- What Next tells. -/
def nxt (l : List R4) (u : Int) : Int × Bool := if (chk l).1 = 0 ∧ 0 < l.length ∧ 1 ≤ u ∧ u ≤ 1048576 then ((l[0]?).elim 0 cr + u, true) else (0, false)
end Hp
end Go.Proofs.Ytahhnfnonekbmaa
end

section
/-
  What hop.Check answers of any list of hops. Conditions: at most a billion hops.
-/
namespace Go.Proofs.Ytahhnfnonekbmaa
open Go.RowKit Go.Shelf
set_option linter.unusedVariables false
set_option linter.unusedSimpArgs false
namespace Hp
open Kk Pm

theorem info_h : (Try.prog.info? 24).map (·.size) = some 4 := by kernel_rfl
theorem zero_h : (Try.prog.info? 24).map (fun i => (i.zero, i.size, i.bytes)) = some (some (.agg #[.int .i64 0, .int .i64 0, .int .i64 0, .int .i64 0]), 4, 32) := by kernel_rfl
theorem load_h {w : World} {b : Nat} {x1 x2 x3 x4 : Int} (h : Blk w b #[.int .i64 x1, .int .i64 x2, .int .i64 x3, .int .i64 x4] 24) : (loadVar 24 ⟨b, 0, none⟩).run Try.prog w = .ok (.agg #[.int .i64 x1, .int .i64 x2, .int .i64 x3, .int .i64 x4]) w :=
  load_b (C := [.int .i64 x1, .int .i64 x2, .int .i64 x3, .int .i64 x4]) h Try.underlying24 rfl info_h
theorem isAccount (x : Int) (w : World) : Calls Try.prog 39 #[.int .i64 x] w fun e w' => e = .returned (.bool (decide (0 ≤ x ∧ x < 64))) ∧ w = w' := by
  go_enter Try.func39, Try.ntmps39
  by_cases h : 0 ≤ x
  · by_cases h2 : x < 64
    · have hd : decide (0 ≤ x ∧ x < 64) = true := decide_eq_true ⟨h, h2⟩
      rw [hd]
      go_wp2
      go_ret
      exact ⟨rfl, rfl⟩
    · have hd : decide (0 ≤ x ∧ x < 64) = false := decide_eq_false (by omega)
      rw [hd]
      go_wp2
      go_ret
      exact ⟨rfl, rfl⟩
  · have hd : decide (0 ≤ x ∧ x < 64) = false := decide_eq_false (by omega)
    rw [hd]
    go_wp2
    go_ret
    exact ⟨rfl, rfl⟩
theorem isValidator (x : Int) (w : World) : Calls Try.prog 40 #[.int .i64 x] w fun e w' => e = .returned (.bool (decide (0 ≤ x ∧ x < 32))) ∧ w = w' := by
  go_enter Try.func40, Try.ntmps40
  by_cases h : 0 ≤ x
  · by_cases h2 : x < 32
    · have hd : decide (0 ≤ x ∧ x < 32) = true := decide_eq_true ⟨h, h2⟩
      rw [hd]
      go_wp2
      go_ret
      exact ⟨rfl, rfl⟩
    · have hd : decide (0 ≤ x ∧ x < 32) = false := decide_eq_false (by omega)
      rw [hd]
      go_wp2
      go_ret
      exact ⟨rfl, rfl⟩
  · have hd : decide (0 ≤ x ∧ x < 32) = false := decide_eq_false (by omega)
    rw [hd]
    go_wp2
    go_ret
    exact ⟨rfl, rfl⟩
theorem isHeight (x : Int) (w : World) : Calls Try.prog 41 #[.int .i64 x] w fun e w' => e = .returned (.bool (decide (1 ≤ x ∧ x ≤ 4294967296))) ∧ w = w' := by
  go_enter Try.func41, Try.ntmps41
  by_cases h : 1 ≤ x
  · by_cases h2 : x ≤ 4294967296
    · have hd : decide (1 ≤ x ∧ x ≤ 4294967296) = true := decide_eq_true ⟨h, h2⟩
      rw [hd]
      go_wp2
      go_ret
      exact ⟨rfl, rfl⟩
    · have hd : decide (1 ≤ x ∧ x ≤ 4294967296) = false := decide_eq_false (by omega)
      rw [hd]
      go_wp2
      go_ret
      exact ⟨rfl, rfl⟩
  · have hd : decide (1 ≤ x ∧ x ≤ 4294967296) = false := decide_eq_false (by omega)
    rw [hd]
    go_wp2
    go_ret
    exact ⟨rfl, rfl⟩
theorem isPeriod (x : Int) (w : World) : Calls Try.prog 43 #[.int .i64 x] w fun e w' => e = .returned (.bool (decide (1 ≤ x ∧ x ≤ 1048576))) ∧ w = w' := by
  go_enter Try.func43, Try.ntmps43
  by_cases h : 1 ≤ x
  · by_cases h2 : x ≤ 1048576
    · have hd : decide (1 ≤ x ∧ x ≤ 1048576) = true := decide_eq_true ⟨h, h2⟩
      rw [hd]
      go_wp2
      go_ret
      exact ⟨rfl, rfl⟩
    · have hd : decide (1 ≤ x ∧ x ≤ 1048576) = false := decide_eq_false (by omega)
      rw [hd]
      go_wp2
      go_ret
      exact ⟨rfl, rfl⟩
  · have hd : decide (1 ≤ x ∧ x ≤ 1048576) = false := decide_eq_false (by omega)
    rw [hd]
    go_wp2
    go_ret
    exact ⟨rfl, rfl⟩

theorem may_no1 {a b c d : Int} (h : ¬ (0 ≤ a ∧ a < 64)) : may (a, b, c, d) = false := decide_eq_false (fun h' => h ⟨h'.1, h'.2.1⟩)
theorem may_no2 {a b c d : Int} (h : ¬ (0 ≤ b ∧ b < 32)) : may (a, b, c, d) = false := decide_eq_false (fun h' => h ⟨h'.2.2.1, h'.2.2.2.1⟩)
theorem may_no3 {a b c d : Int} (h : ¬ (0 ≤ c ∧ c < 32)) : may (a, b, c, d) = false := decide_eq_false (fun h' => h ⟨h'.2.2.2.2.1, h'.2.2.2.2.2.1⟩)
theorem may_no4 {a b c d : Int} (h : b = c) : may (a, b, c, d) = false := decide_eq_false (fun h' => h'.2.2.2.2.2.2.1 h)
theorem may_no5 {a b c d : Int} (h : ¬ (1 ≤ d ∧ d ≤ 4294967296)) : may (a, b, c, d) = false := decide_eq_false (fun h' => h h'.2.2.2.2.2.2.2)
theorem may_yes {a b c d : Int} (h1 : 0 ≤ a ∧ a < 64) (h2 : 0 ≤ b ∧ b < 32) (h3 : 0 ≤ c ∧ c < 32) (h4 : ¬ b = c) (h5 : 1 ≤ d ∧ d ≤ 4294967296) : may (a, b, c, d) = true := decide_eq_true ⟨h1.1, h1.2, h2.1, h2.2, h3.1, h3.2, h4, h5⟩
theorem hE_3 {b : Int} {r : R4} (h : may r = false) : hE b r = 3 := if_pos h
theorem hE_9 {b : Int} {r : R4} (h : may r = true) (h2 : cr r < b) : hE b r = 9 := by
  unfold hE
  rw [if_neg (by rw [h]; decide), if_pos h2]
theorem rng4 {w : World} {b o : Nat} {a1 a2 a3 a4 : Value} (h : w.rangeAt b o [a1, a2, a3, a4]) : w.cell? ⟨b, o, none⟩ = some a1 ∧ w.cell? ⟨b, o + 1, none⟩ = some a2 ∧ w.cell? ⟨b, o + 2, none⟩ = some a3 ∧ w.cell? ⟨b, o + 3, none⟩ = some a4 :=
  ⟨h 0 _ rfl, h 1 _ rfl, h 2 _ rfl, h 3 _ rfl⟩

set_option maxRecDepth 100000 in
set_option maxHeartbeats 4000000 in
theorem check (A : Option Addr) (n c : Nat) (l : List R4) (w : World) (hi : Rw.RS hR w A n c l) (hn : n ≤ 1000000000) :
    Calls Try.prog 11 #[.slice A n c] w fun e w' => e = .returned (.tuple #[.int .i64 (chk l).1, .int .i64 (chk l).2]) ∧ Bel w w' := by
  have HR := Lib.hid hi
  have HL := Lib.hid hi.len
  clear hi
  by_cases hlong : 4096 < n
  · have e : chk l = (4, 4096) := if_pos (by rw [HL.out]; exact hlong)
    rw [e]
    clear e
    have hlong3 : (4096 : Int) < n := by omega
    go_enter Try.func11, Try.ntmps11
    go_wp2_with fail
    go_step3
    go_wp2_with fail
    (try rw [Exit.noGoto_ret])
    go_ret2
    exact ⟨rfl, Bel.refl _⟩
  have e : chk l = ck 0 l 0 := if_neg (by rw [HL.out]; exact hlong)
  rw [e]
  clear e
  obtain ⟨R, hRR⟩ : ∃ R, ck 0 l 0 = R := ⟨_, rfl⟩
  rw [hRR]
  have HRR := Lib.hid hRR
  have hlong3 : ¬ (4096 : Int) < n := by omega
  clear hRR
  go_enter Try.func11, Try.ntmps11
  go_wp2_with fail
  go_step3
  go_wp2_with fail
  go_step3
  go_wp2_with fail
  go_loopw [2, 3, 4, 12] (fun s2 s3 s4 s12 wr => ∃ k : Nat, k ≤ n ∧ s12 = .int .i64 k ∧ s2 = .int .i64 0 ∧ s3 = .int .i64 0 ∧ s4 = .int .i64 (bef 0 l k) ∧ Hid ((∀ (j : Nat) (x : R4), j < k → l[j]? = some x → hE (bef 0 l j) x = 0) ∧ Bel w wr)) (fun _ _ _ s12 _ => n - (intOf s12).toNat)
  case atStart => exact ⟨0, Nat.zero_le _, rfl, rfl, rfl, rfl, Lib.hid ⟨fun j x hj => absurd hj (by omega), Bel.refl _⟩⟩
  case round =>
    obtain ⟨k, hk, rfl, rfl, rfl, rfl, hh⟩ := hrel
    obtain ⟨B, hB⟩ : ∃ B, bef 0 l k = B := ⟨_, rfl⟩
    rw [hB]
    have HB := Lib.hid hB
    clear hB
    by_cases hlt : k < n
    · obtain ⟨⟨r1, r2, r3, r4⟩, hr⟩ := HR.out.get hlt
      obtain ⟨b, o, rfl, hb, hrow⟩ := (HR.out.bel hh.out.2).at hlt hr
      have HRR1 := Lib.hid hr
      have AT := Lib.hid (show hE B (r1, r2, r3, r4) ≠ 0 → R = (hE B (r1, r2, r3, r4), k) from fun h0 => by
        have := ck_at l 0 0 k _ hh.out.1 hr (by rw [HB.out]; exact h0)
        rw [HRR.out, HB.out, Nat.zero_add] at this
        exact this)
      have hlt3 : (k : Int) < n := by omega
      obtain ⟨c0, c1, c2, c3⟩ := rng4 (show wr.rangeAt b (o + k * 4) [.int .i64 r1, .int .i64 r2, .int .i64 r3, .int .i64 r4] from hrow)
      clear hr hrow
      go_upto_region 7 with fail
      have P0 := Lib.hid (Blk.new wr #[.int .i64 r1, .int .i64 r2, .int .i64 r3, .int .i64 r4] 24)
      obtain ⟨V, hV⟩ : ∃ V, wr.alloc (.cells #[.int .i64 r1, .int .i64 r2, .int .i64 r3, .int .i64 r4] 24) = V := ⟨_, rfl⟩
      have BV := Lib.hid (show Bel w V by rw [← hV]; exact hh.out.2.alloc _)
      rw [hV] at P0 ⊢
      obtain ⟨q, hq⟩ : ∃ q, wr.heap.size = q := ⟨_, rfl⟩
      rw [hq] at P0 ⊢
      clear hV hq c0 c1 c2 c3
      have c0 := P0.out.cell 0 rfl
      have c1 := P0.out.cell 1 rfl
      have c2 := P0.out.cell 2 rfl
      have c3 := P0.out.cell 3 rfl
      by_cases h1 : 0 ≤ r1 ∧ r1 < 64
      · have i1 := isAccount r1 V
        rw [decide_eq_true h1] at i1
        go_wp2_with fail
        refine i1.mono ?_
        rintro e w1 ⟨rfl, rfl⟩
        clear i1
        by_cases h2 : 0 ≤ r2 ∧ r2 < 32
        · have i2 := isValidator r2 V
          rw [decide_eq_true h2] at i2
          go_wp2_with fail
          refine i2.mono ?_
          rintro e w1 ⟨rfl, rfl⟩
          clear i2
          by_cases h3 : 0 ≤ r3 ∧ r3 < 32
          · have i3 := isValidator r3 V
            rw [decide_eq_true h3] at i3
            go_wp2_with fail
            refine i3.mono ?_
            rintro e w1 ⟨rfl, rfl⟩
            clear i3
            by_cases h4 : r2 = r3
            · obtain rfl : R = (3, k) := by have h0 := AT.out (by rw [hE_3 (may_no4 h4)]; decide); rwa [hE_3 (may_no4 h4)] at h0
              have h4b : (r2 == r3) = true := by rw [beq_iff_eq]; exact h4
              clear h4
              go_wp2_with fail
              (try rw [Exit.noGoto_ret])
              go_ret2
              exact ⟨rfl, BV.out⟩
            · have h4b : (r2 == r3) = false := beq_eq_false_iff_ne.2 h4
              by_cases h5 : 1 ≤ r4 ∧ r4 ≤ 4294967296
              · have i5 := isHeight r4 V
                rw [decide_eq_true h5] at i5
                go_wp2_with fail
                refine i5.mono ?_
                rintro e w1 ⟨rfl, rfl⟩
                clear i5
                have hm := may_yes h1 h2 h3 h4 h5
                clear h1 h2 h3 h4 h5
                by_cases h6 : r4 < B
                · obtain rfl : R = (9, k) := by have h0 := AT.out (by rw [hE_9 hm h6]; decide); rwa [hE_9 hm h6] at h0
                  clear hm
                  go_wp2_with fail
                  (try rw [Exit.noGoto_ret])
                  go_ret2
                  exact ⟨rfl, BV.out⟩
                · have HZ := Lib.hid (hE_mk hm (show B ≤ r4 by omega))
                  clear hm
                  go_wp2_with fail
                  go_roundw
                  case rel =>
                    refine ⟨k + 1, by omega, by go_num, rfl, rfl, by rw [bef_succ HRR1.out]; rfl, Lib.hid ⟨fun j x hj hx => ?_, BV.out⟩⟩
                    rcases Nat.lt_or_ge j k with h' | h'
                    · exact hh.out.1 j x h' hx
                    · obtain rfl : j = k := by omega
                      have := HRR1.out.symm.trans hx
                      injection this with this
                      rw [← this, HB.out]; exact HZ.out
                  case measure => simp [intOf]; omega
              · obtain rfl : R = (3, k) := by have h0 := AT.out (by rw [hE_3 (may_no5 h5)]; decide); rwa [hE_3 (may_no5 h5)] at h0
                have i5 := isHeight r4 V
                rw [decide_eq_false h5] at i5
                go_wp2_with fail
                refine i5.mono ?_
                rintro e w1 ⟨rfl, rfl⟩
                go_wp2_with fail
                (try rw [Exit.noGoto_ret])
                go_ret2
                exact ⟨rfl, BV.out⟩
          · obtain rfl : R = (3, k) := by have h0 := AT.out (by rw [hE_3 (may_no3 h3)]; decide); rwa [hE_3 (may_no3 h3)] at h0
            have i3 := isValidator r3 V
            rw [decide_eq_false h3] at i3
            go_wp2_with fail
            refine i3.mono ?_
            rintro e w1 ⟨rfl, rfl⟩
            go_wp2_with fail
            (try rw [Exit.noGoto_ret])
            go_ret2
            exact ⟨rfl, BV.out⟩
        · obtain rfl : R = (3, k) := by have h0 := AT.out (by rw [hE_3 (may_no2 h2)]; decide); rwa [hE_3 (may_no2 h2)] at h0
          have i2 := isValidator r2 V
          rw [decide_eq_false h2] at i2
          go_wp2_with fail
          refine i2.mono ?_
          rintro e w1 ⟨rfl, rfl⟩
          go_wp2_with fail
          (try rw [Exit.noGoto_ret])
          go_ret2
          exact ⟨rfl, BV.out⟩
      · obtain rfl : R = (3, k) := by have h0 := AT.out (by rw [hE_3 (may_no1 h1)]; decide); rwa [hE_3 (may_no1 h1)] at h0
        have i1 := isAccount r1 V
        rw [decide_eq_false h1] at i1
        go_wp2_with fail
        refine i1.mono ?_
        rintro e w1 ⟨rfl, rfl⟩
        go_wp2_with fail
        (try rw [Exit.noGoto_ret])
        go_ret2
        exact ⟨rfl, BV.out⟩
    · obtain rfl : k = n := by omega
      have h0 : R = (0, 0) := HRR.out.symm.trans (ck_end l 0 0 (fun j x hx => hh.out.1 j x (by have := (List.getElem?_eq_some_iff.1 hx).1; have := HL.out; omega) hx))
      subst h0
      go_wp2_with fail
      (try rw [Exit.noGoto_ret])
      go_ret2
      exact ⟨rfl, hh.out.2⟩
end Hp
end Go.Proofs.Ytahhnfnonekbmaa
end

section
/-
  What == and != of structs of integers tell, field by field. No condition.
-/
namespace Go.Proofs.Ytahhnfnonekbmaa
open Go.RowKit Go.Shelf
set_option linter.unusedVariables false
set_option linter.unusedSimpArgs false
namespace Rw

theorem eqF_cons {P : Program} {d : Nat} {xs ys : Array Value} {f : Field} {fs : List Field} {W : World} {a b : Value} {r s : Bool} (hn : f.name ≠ "_") (h1 : (part f.type xs f.offset).run P W = .ok a W) (h2 : (part f.type ys f.offset).run P W = .ok b W)
    (h3 : (Op.equalIn d f.type a b).run P W = .ok r W) (h4 : (Op.eqFields d xs ys fs).run P W = .ok s W) : (Op.eqFields d xs ys (f :: fs)).run P W = .ok (r && s) W := by
  cases r <;> simp [Op.eqFields, hn, h1, h2, h3, h4, Sem.run_ite]
theorem eqF_nil {P : Program} {d : Nat} {xs ys : Array Value} {W : World} : (Op.eqFields d xs ys []).run P W = .ok true W := rfl
theorem partI {P : Program} {t : TypeId} {q : IntKind} (hu : P.underlying t = some (.int q)) {xs : Array Value} {i : Nat} {v : Value} (hx : xs[i]? = some v) (w : World) : (part t xs i).run P w = .ok v w := by
  simp [part, isAgg, run_underlying hu, hx]
theorem partS {P : Program} {t : TypeId} {fs : Array Field} (hu : P.underlying t = some (.struct fs)) {z : Nat} (hz : (P.info? t).map (·.size) = some z) {xs ys : Array Value} {i : Nat} (he : xs.extract i (i + z) = ys) (w : World) : (part t xs i).run P w = .ok (.agg ys) w := by
  cases hq : P.info? t with
  | none => rw [hq] at hz; cases hz
  | some k =>
    rw [hq] at hz
    simp at hz
    subst hz
    simp [part, isAgg, run_underlying hu, sizeOf, typeInfo, hq, he]
theorem exec_neq {P : Program} {a : Act} {o : Oper} {t t2 : TypeId} {x y : Operand} (ho : o.op = .binOp .neq t x y t2) (xs ys : Array Value) (hx : a.eval x = .agg xs) (hy : a.eval y = .agg ys) (hm : P.eqGuardType P.depth t = false)
    {b : Bool} (hb : ∀ w, (binOp .neq t (.agg xs) (.agg ys)).run P w = .ok (.bool b) w) (w : World) : (execOp a.eval o).run P w = .ok (.value (.bool b)) w := by
  unfold execOp
  simp only [ho, hx, hy, Sem.run_bind, run_eqGuard_agg (hm := hm), Result.andThen_ok, hb, Sem.run_pure]
theorem exec_eql {P : Program} {a : Act} {o : Oper} {t t2 : TypeId} {x y : Operand} (ho : o.op = .binOp .eql t x y t2) (xs ys : Array Value) (hx : a.eval x = .agg xs) (hy : a.eval y = .agg ys) (hm : P.eqGuardType P.depth t = false)
    {b : Bool} (hb : ∀ w, (binOp .eql t (.agg xs) (.agg ys)).run P w = .ok (.bool b) w) (w : World) : (execOp a.eval o).run P w = .ok (.value (.bool b)) w := by
  unfold execOp
  simp only [ho, hx, hy, Sem.run_bind, run_eqGuard_agg (hm := hm), Result.andThen_ok, hb, Sem.run_pure]
/-- An operation that yields a value, whether it is guarded or not, as an arm of a walk. -/
theorem wpList_val {P : Program} {ops : Array Oper} {rest : List Oper} {o : Oper} {a : Act} {w : World} {Q : Exit → Act → World → Prop} (hw : Region.wanted o (yielded ops a.tmps) = true) (V : Value) (hr : ∀ w, (execOp a.eval o).run P w = .ok (.value V) w)
    (h : wpList P ops Q rest (a.put o.dst V) w) : wpList P ops Q (o :: rest) a w :=
  wpList_step fun K hK => by
    rw [if_pos hw]
    unfold Oper.wp
    rw [hr]
    exact hK _ _ h

theorem eqIn_hop (d : Nat) (a0 a1 a2 a3 b0 b1 b2 b3 : Int) (W : World) : (Op.equalIn (d + 2) 24 (.agg #[Value.int .i64 a0, Value.int .i64 a1, Value.int .i64 a2, Value.int .i64 a3]) (.agg #[Value.int .i64 b0, Value.int .i64 b1, Value.int .i64 b2, Value.int .i64 b3])).run Try.prog W = .ok ((a0 == b0) && ((a1 == b1) && ((a2 == b2) && ((a3 == b3) && true)))) W := by
  have hS : Try.prog.underlying 24 = some (.struct (Try.prog.fieldsOf 24)) := by kernel_rfl
  rw [show d + 2 = (d + 1) + 1 from rfl, run_equalIn_struct W (d + 1) _ _ _ hS (by kernel_rfl)]
  simp only [Program.fieldsOf, Try.underlying24]
  exact eqF_cons (by decide) (partI Try.underlying3 rfl _) (partI Try.underlying3 rfl _) (run_equalIn_int W _ _ _ _ _ _ Try.underlying3) (eqF_cons (by decide) (partI Try.underlying3 rfl _) (partI Try.underlying3 rfl _) (run_equalIn_int W _ _ _ _ _ _ Try.underlying3) (eqF_cons (by decide) (partI Try.underlying3 rfl _) (partI Try.underlying3 rfl _) (run_equalIn_int W _ _ _ _ _ _ Try.underlying3) (eqF_cons (by decide) (partI Try.underlying3 rfl _) (partI Try.underlying3 rfl _) (run_equalIn_int W _ _ _ _ _ _ Try.underlying3) (eqF_nil))))
theorem eq_hop (a0 a1 a2 a3 b0 b1 b2 b3 : Int) : ((a0 == b0) && ((a1 == b1) && ((a2 == b2) && ((a3 == b3) && true)))) = decide ((a0, a1, a2, a3) = (b0, b1, b2, b3)) := by
  rw [Bool.eq_iff_iff]
  simp only [Bool.and_eq_true, beq_iff_eq, Prod.mk.injEq, and_assoc, and_true, decide_eq_true_eq]
theorem eql_hop (a0 a1 a2 a3 b0 b1 b2 b3 : Int) (W : World) : (binOp .eql 24 (.agg #[Value.int .i64 a0, Value.int .i64 a1, Value.int .i64 a2, Value.int .i64 a3]) (.agg #[Value.int .i64 b0, Value.int .i64 b1, Value.int .i64 b2, Value.int .i64 b3])).run Try.prog W = .ok (.bool (decide ((a0, a1, a2, a3) = (b0, b1, b2, b3)))) W := by
  rw [run_eql_struct, show (10000 : Nat) = 9998 + 2 from rfl, eqIn_hop, eq_hop]
  rfl
theorem neq_hop (a0 a1 a2 a3 b0 b1 b2 b3 : Int) (W : World) : (binOp .neq 24 (.agg #[Value.int .i64 a0, Value.int .i64 a1, Value.int .i64 a2, Value.int .i64 a3]) (.agg #[Value.int .i64 b0, Value.int .i64 b1, Value.int .i64 b2, Value.int .i64 b3])).run Try.prog W = .ok (.bool (!decide ((a0, a1, a2, a3) = (b0, b1, b2, b3)))) W := by
  rw [run_neq_struct, show (10000 : Nat) = 9998 + 2 from rfl, eqIn_hop, eq_hop]
  rfl

end Rw
end Go.Proofs.Ytahhnfnonekbmaa
end

section
/-
  What the kit's Same functions tell of two lists of rows. Conditions: at most a billion rows.
-/
namespace Go.Proofs.Ytahhnfnonekbmaa
open Go.RowKit Go.Shelf
set_option linter.unusedVariables false
set_option linter.unusedSimpArgs false
namespace Hp
open Kk Pm

set_option maxRecDepth 100000 in
set_option maxHeartbeats 4000000 in
theorem same_hops (A B : Option Addr) (n c m d : Nat) (l1 l2 : List _) (w : World) (ha : Rw.RS hR w A n c l1) (hb : Rw.RS hR w B m d l2) (hn : n ≤ 1000000000) (hm : m ≤ 1000000000) :
    Calls Try.prog 24 #[.slice A n c, .slice B m d] w fun e w' => e = .returned (.bool (decide (l1 = l2))) ∧ Bel w w' := by
  have HA := Lib.hid ha
  have HB := Lib.hid hb
  have HLA := Lib.hid ha.len
  have HLB := Lib.hid hb.len
  clear ha hb
  by_cases hnm : n = m
  · subst hnm
    have hbb : ((n : Int) == n) = true := by simp
    go_enter Try.func24, Try.ntmps24
    go_wp2_with fail
    go_loopw [5, 6] (fun s i wr => ∃ k : Nat, k ≤ n ∧ i = .int .i64 k ∧ Bel w wr ∧ ∃ b : Bool, s = .bool b ∧ (b = true → l1.take k = l2.take k) ∧ (b = false → l1 ≠ l2)) (fun _ i _ => n - (intOf i).toNat)
    case atStart => exact ⟨0, Nat.zero_le _, rfl, Bel.refl _, true, rfl, fun _ => rfl, fun h => by cases h⟩
    case round =>
      obtain ⟨k, hk, rfl, hbel, b, rfl, ht, hf⟩ := hrel
      cases b with
      | false =>
        have HD := Lib.hid (show decide (l1 = l2) = false from decide_eq_false (hf rfl))
        have HBE := Lib.hid hbel
        clear ht hf hbel
        go_wp2
        go_ret
        exact ⟨by rw [HD.out]; rfl, HBE.out⟩
      | true =>
        have HT := Lib.hid (ht rfl)
        clear ht hf
        by_cases hlt : k < n
        · obtain ⟨⟨a0, a1, a2, a3⟩, hr1⟩ := HA.out.get hlt
          obtain ⟨⟨b0, b1, b2, b3⟩, hr2⟩ := HB.out.get hlt
          obtain ⟨g1, o1, rfl, _, c1⟩ := (HA.out.bel hbel).at hlt hr1
          obtain ⟨g2, o2, rfl, _, c2⟩ := (HB.out.bel hbel).at hlt hr2
          have HC1 := Lib.hid (show wr.rangeAt g1 (o1 + k * 4) #[.int .i64 a0, .int .i64 a1, .int .i64 a2, .int .i64 a3].toList from c1)
          have HC2 := Lib.hid (show wr.rangeAt g2 (o2 + k * 4) #[.int .i64 b0, .int .i64 b1, .int .i64 b2, .int .i64 b3].toList from c2)
          have HBE := Lib.hid hbel
          have EQ := Lib.hid (fun V => Rw.eql_hop a0 a1 a2 a3 b0 b1 b2 b3 V)
          have HNX := Lib.hid (show ∀ y : Bool, decide ((a0, a1, a2, a3) = (b0, b1, b2, b3)) = y → (y = true → l1.take (k + 1) = l2.take (k + 1)) ∧ (y = false → l1 ≠ l2) from fun y hy => by
            refine ⟨fun h => ?_, fun h e => ?_⟩
            · rw [List.take_add_one, List.take_add_one, hr1, hr2, HT.out, of_decide_eq_true (hy.trans h)]
            · subst e
              rw [decide_eq_true (Option.some.inj (hr1.symm.trans hr2))] at hy
              rw [← hy] at h
              cases h)
          obtain ⟨y, hy⟩ : ∃ y, decide ((a0, a1, a2, a3) = (b0, b1, b2, b3)) = y := ⟨_, rfl⟩
          have HNX := Lib.hid (HNX.out y hy)
          replace EQ := Lib.hid (show ∀ V, (binOp .eql 24 (.agg #[.int .i64 a0, .int .i64 a1, .int .i64 a2, .int .i64 a3]) (.agg #[.int .i64 b0, .int .i64 b1, .int .i64 b2, .int .i64 b3])).run Try.prog V = .ok (.bool y) V from fun V => by rw [← hy]; exact EQ.out V)
          have hlt3 : (k : Int) < n := by omega
          have hlt0 : (0 : Int) ≤ k := by omega
          clear hr1 hr2 c1 c2 hbel hy
          go_upto_region 5 with fail
          refine wp_region_held_drew (S := fun Vx => Bel wr Vx) (by kernel_rfl) (Bel.refl _).drew (fun hS0 => ?_)
          obtain ⟨w6, hw6⟩ : ∃ w6, World.drew wr = w6 := ⟨_, rfl⟩
          rw [hw6] at hS0 ⊢
          clear hw6
          refine wpAnyH_take (i := 0) (oi := { dst := some 21, op := .move (.tmp 0), type := 22, pos := "hops.go:9", after := #[], guard := none }) (v := .slice (some ⟨g1, o1, none⟩) n c) rfl (by kernel_rfl) (by kernel_rfl) (by kernel_rfl) (fun _ _ _ h => h) (Or.inl ⟨by rfl, by intro w hSw; clear hSw; go_simp⟩) hS0 ?_
          try simp only [Act.put, List.setIfInBounds_toArray, List.set_cons_zero, List.set_cons_succ]
          refine wpAnyH_take (i := 1) (oi := { dst := some 22, op := .move (.tmp 6), type := 3, pos := "hops.go:9", after := #[], guard := none }) (v := .int .i64 k) rfl (by kernel_rfl) (by kernel_rfl) (by kernel_rfl) (fun _ _ _ h => h) (Or.inl ⟨by rfl, by intro w hSw; clear hSw; go_simp⟩) hS0 ?_
          try simp only [Act.put, List.setIfInBounds_toArray, List.set_cons_zero, List.set_cons_succ]
          refine wpAnyH_take (i := 2) (oi := { dst := some 23, op := .indexAddr 22 (.tmp 21) (.tmp 22), type := 0, pos := "hops.go:9", after := #[{ on := 0, ground := .data }, { on := 1, ground := .data }], guard := none }) (v := .pointer (some ⟨g1, o1 + k * 4, none⟩)) rfl (by kernel_rfl) (by kernel_rfl) (by kernel_rfl) (fun _ _ _ h => h) (Or.inl ⟨by rfl, by intro w hSw; clear hSw; go_simp⟩) hS0 ?_
          try simp only [Act.put, List.setIfInBounds_toArray, List.set_cons_zero, List.set_cons_succ]
          refine wpAnyH_take (i := 3) (oi := { dst := some 24, op := .load 24 (.tmp 23), type := 24, pos := "hops.go:9", after := #[{ on := 2, ground := .data }], guard := none }) (v := .agg #[.int .i64 a0, .int .i64 a1, .int .i64 a2, .int .i64 a3]) rfl (by kernel_rfl) (by kernel_rfl) (by kernel_rfl) (fun _ _ _ h => h) (yieldsIf_load_mid (by rfl) _ _ rfl _ _ rfl _ _ (fun w h => rng_bel HC1.out h) Try.underlying24 rfl (by kernel_rfl)) hS0 ?_
          try simp only [Act.put, List.setIfInBounds_toArray, List.set_cons_zero, List.set_cons_succ]
          refine wpAnyH_take (i := 4) (oi := { dst := some 25, op := .move (.tmp 1), type := 22, pos := "hops.go:9", after := #[], guard := none }) (v := .slice (some ⟨g2, o2, none⟩) n d) rfl (by kernel_rfl) (by kernel_rfl) (by kernel_rfl) (fun _ _ _ h => h) (Or.inl ⟨by rfl, by intro w hSw; clear hSw; go_simp⟩) hS0 ?_
          try simp only [Act.put, List.setIfInBounds_toArray, List.set_cons_zero, List.set_cons_succ]
          refine wpAnyH_take (i := 5) (oi := { dst := some 26, op := .move (.tmp 6), type := 3, pos := "hops.go:9", after := #[], guard := none }) (v := .int .i64 k) rfl (by kernel_rfl) (by kernel_rfl) (by kernel_rfl) (fun _ _ _ h => h) (Or.inl ⟨by rfl, by intro w hSw; clear hSw; go_simp⟩) hS0 ?_
          try simp only [Act.put, List.setIfInBounds_toArray, List.set_cons_zero, List.set_cons_succ]
          refine wpAnyH_take (i := 6) (oi := { dst := some 27, op := .indexAddr 22 (.tmp 25) (.tmp 26), type := 0, pos := "hops.go:9", after := #[{ on := 4, ground := .data }, { on := 5, ground := .data }], guard := none }) (v := .pointer (some ⟨g2, o2 + k * 4, none⟩)) rfl (by kernel_rfl) (by kernel_rfl) (by kernel_rfl) (fun _ _ _ h => h) (Or.inl ⟨by rfl, by intro w hSw; clear hSw; go_simp⟩) hS0 ?_
          try simp only [Act.put, List.setIfInBounds_toArray, List.set_cons_zero, List.set_cons_succ]
          refine wpAnyH_take (i := 7) (oi := { dst := some 28, op := .load 24 (.tmp 27), type := 24, pos := "hops.go:9", after := #[{ on := 6, ground := .data }], guard := none }) (v := .agg #[.int .i64 b0, .int .i64 b1, .int .i64 b2, .int .i64 b3]) rfl (by kernel_rfl) (by kernel_rfl) (by kernel_rfl) (fun _ _ _ h => h) (yieldsIf_load_mid (by rfl) _ _ rfl _ _ rfl _ _ (fun w h => rng_bel HC2.out h) Try.underlying24 rfl (by kernel_rfl)) hS0 ?_
          try simp only [Act.put, List.setIfInBounds_toArray, List.set_cons_zero, List.set_cons_succ]
          refine wpAnyH_take (i := 8) (oi := { dst := some 29, op := .binOp .eql 24 (.tmp 24) (.tmp 28) 24, type := 4, pos := "hops.go:9", after := #[{ on := 3, ground := .data }, { on := 7, ground := .data }], guard := none }) (v := .bool y) rfl (by kernel_rfl) (by kernel_rfl) (by kernel_rfl) (fun _ _ _ h => h) (Or.inl ⟨by rfl, fun w _ => Rw.exec_eql rfl _ _ rfl rfl (by kernel_rfl) EQ.out w⟩) hS0 ?_
          try simp only [Act.put, List.setIfInBounds_toArray, List.set_cons_zero, List.set_cons_succ]
          refine wpAnyH_take (i := 9) (oi := { dst := some 5, op := .assign (.tmp 29), type := 4, pos := "hops.go:9", after := #[{ on := 8, ground := .data }, { on := 0, ground := .phase }, { on := 1, ground := .phase }, { on := 2, ground := .phase }, { on := 3, ground := .phase }, { on := 4, ground := .phase }, { on := 5, ground := .phase }, { on := 6, ground := .phase }, { on := 7, ground := .phase }, { on := 8, ground := .phase }], guard := none }) (v := .bool y) rfl (by kernel_rfl) (by kernel_rfl) (by kernel_rfl) (fun _ _ _ h => h) (Or.inl ⟨by rfl, by intro w hSw; clear hSw; go_simp⟩) hS0 ?_
          try simp only [Act.put, List.setIfInBounds_toArray, List.set_cons_zero, List.set_cons_succ]
          refine wpAnyH_done (by kernel_rfl) ?_ _
          have HE := Lib.hid (HBE.out.trans hS0)
          clear HC1 HC2 EQ HBE
          go_wp2_with fail
          go_roundw
          case rel => exact ⟨k + 1, by omega, by go_num, HE.out, y, rfl, HNX.out.1, HNX.out.2⟩
          case measure => simp [intOf]; omega
        · obtain rfl : k = n := by omega
          have HD := Lib.hid (show decide (l1 = l2) = true from decide_eq_true (by
            have h := HT.out
            rwa [List.take_of_length_le (by rw [HLA.out]; exact Nat.le_refl _), List.take_of_length_le (by rw [HLB.out]; exact Nat.le_refl _)] at h))
          have HBE := Lib.hid hbel
          clear hbel
          go_wp2
          go_ret
          exact ⟨by rw [HD.out]; rfl, HBE.out⟩
  · have HD := Lib.hid (show decide (l1 = l2) = false from decide_eq_false (fun e => hnm (by
      have := congrArg List.length e
      rw [HLA.out, HLB.out] at this
      exact this)))
    have hbb : ((n : Int) == m) = false := by simp; omega
    clear hnm
    go_enter Try.func24, Try.ntmps24
    go_wp2_with fail
    go_loop [5] (fun s => s = .bool false) (fun _ => 0)
    case atStart => rfl
    case round =>
      subst hrel
      go_wp2
      go_ret
      exact ⟨by rw [HD.out]; rfl, Bel.refl _⟩

end Hp
end Go.Proofs.Ytahhnfnonekbmaa
end

section
/-
  What follows of lists of hops: the ripe ones are a beginning; going up in two steps; lists that were made by Adds of one most. No program.
-/
namespace Go.Proofs.Ytahhnfnonekbmaa
open Go.RowKit Go.Shelf
set_option linter.unusedVariables false
namespace Hp

theorem rip_cons_le {y : R4} {l : List R4} {m : Int} (h : cr y ≤ m) : rip (y :: l) m = y :: rip l m := List.filter_cons_of_pos (by simpa using h)
theorem lft_cons_le {y : R4} {l : List R4} {m : Int} (h : cr y ≤ m) : lft (y :: l) m = lft l m := List.filter_cons_of_neg (by simp; omega)
theorem rip_all_gt {l : List R4} {m : Int} (h : ∀ r ∈ l, m < cr r) : rip l m = [] := List.filter_eq_nil_iff.2 (fun r hr => by have := h r hr; simp; omega)
theorem lft_all_gt {l : List R4} {m : Int} (h : ∀ r ∈ l, m < cr r) : lft l m = l := List.filter_eq_self.2 (fun r hr => decide_eq_true (h r hr))
theorem srt_gt {y : R4} {l : List R4} {b m : Int} (hs : Srt b (y :: l)) (h : m < cr y) : ∀ r ∈ y :: l, m < cr r := fun r hr => by
  rcases List.mem_cons.1 hr with rfl | hr
  · exact h
  · have := (srt_le l (cr y) hs.2.2 r hr).2
    omega
theorem rip_lft : ∀ (l : List R4) (b m : Int), Srt b l → rip l m ++ lft l m = l
  | [], _, _, _ => rfl
  | y :: l, b, m, hs => by
    rcases Int.lt_or_le m (cr y) with h | h
    · rw [rip_all_gt (srt_gt hs h), lft_all_gt (srt_gt hs h)]; rfl
    · rw [rip_cons_le h, lft_cons_le h]
      show y :: (rip l m ++ lft l m) = _
      rw [rip_lft l (cr y) m hs.2.2]
theorem rip_two : ∀ (l : List R4) (b f g : Int), Srt b l → f ≤ g → rip l f ++ rip (lft l f) g = rip l g
  | [], _, _, _, _, _ => rfl
  | y :: l, b, f, g, hs, hfg => by
    rcases Int.lt_or_le f (cr y) with h | h
    · rw [rip_all_gt (srt_gt hs h), lft_all_gt (srt_gt hs h)]; rfl
    · rw [rip_cons_le h, lft_cons_le h, rip_cons_le (by omega : cr y ≤ g)]
      show y :: (rip l f ++ rip (lft l f) g) = _
      rw [rip_two l (cr y) f g hs.2.2 hfg]
theorem lft_two (l : List R4) (f g : Int) (hfg : f ≤ g) : lft (lft l f) g = lft l g := by
  unfold lft
  rw [List.filter_filter]
  refine List.filter_congr fun r _ => ?_
  by_cases h : g < cr r
  · rw [decide_eq_true h, decide_eq_true (by omega : f < cr r)]; rfl
  · rw [decide_eq_false h]; rfl
theorem rip_iff {l : List R4} {b m : Int} (hs : Srt b l) {i : Nat} {r : R4} (hr : l[i]? = some r) : i < (rip l m).length ↔ cr r ≤ m := by
  have e := rip_lft l b m hs
  constructor
  · intro hi
    rw [← e, List.getElem?_append_left hi] at hr
    have := List.mem_filter.1 (List.mem_of_getElem? hr)
    simpa using this.2
  · intro hm
    rcases Nat.lt_or_ge i (rip l m).length with hi | hi
    · exact hi
    · rw [← e, List.getElem?_append_right hi] at hr
      have := (List.mem_filter.1 (List.mem_of_getElem? hr)).2
      simp at this
      omega
theorem srt_lft : ∀ (l : List R4) (b m : Int), Srt b l → Srt b (lft l m)
  | [], _, _, _ => trivial
  | y :: l, b, m, hs => by
    rcases Int.lt_or_le m (cr y) with h | h
    · rw [lft_all_gt (srt_gt hs h)]; exact hs
    · rw [lft_cons_le h]
      have h2 := srt_lft l (cr y) m hs.2.2
      cases hl : lft l m with
      | nil => trivial
      | cons z t =>
        rw [hl] at h2
        exact ⟨h2.1, Int.le_trans hs.2.1 h2.2.1, h2.2.2⟩
theorem ok_lft {l : List R4} (m : Int) (h : Ok l) : Ok (lft l m) := ⟨Nat.le_trans (List.length_filter_le _ _) h.1, srt_lft l 0 m h.2⟩
theorem rip_first {l : List R4} {b : Int} {y : R4} (hs : Srt b l) (hy : l[0]? = some y) : rip l (cr y - 1) = [] ∧ lft l (cr y - 1) = l ∧ 0 < (rip l (cr y)).length := by
  cases l with
  | nil => simp at hy
  | cons x l =>
    simp at hy; subst hy
    refine ⟨rip_all_gt (srt_gt hs (by omega)), lft_all_gt (srt_gt hs (by omega)), ?_⟩
    rw [rip_cons_le (Int.le_refl _)]
    simp

/-- The hop of a number at a height. -/
def hopN (n at_ : Int) : R4 := (n / 4 % 3, n / 12 % 3, 3 + n / 36 % 2, at_)
/-- One more number. -/
def mstep (m : Int) (s : List R4 × Int) (z : Int) : List R4 × Int :=
  (if m ≤ cnt s.1 (hopN (z % 4000) 0).1 (hopN (z % 4000) 0).2.1 (hopN (z % 4000) 0).2.2.1 then s.1 else s.1 ++ [hopN (z % 4000) (s.2 + z % 4000 % 4)], s.2 + z % 4000 % 4)
def mad (m : Int) (zs : List Int) : List R4 × Int := zs.foldl (mstep m) ([], 1)
structure Mi (m : Int) (k : Nat) (s : List R4 × Int) : Prop where
  srt : Srt 0 s.1
  bef : bef 0 s.1 s.1.length ≤ s.2
  lo : 1 ≤ s.2
  hi : s.2 ≤ 1 + 3 * k
  len : s.1.length ≤ k
  most : ∀ o s_ d, (cnt s.1 o s_ d : Int) ≤ m
theorem hopN_may {n at_ : Int} (h : 1 ≤ at_) (h2 : at_ ≤ 4294967296) : may (hopN n at_) = true := (may_iff _ _ _ _).2 ⟨by omega, by omega, by omega, by omega, by omega, by omega, by omega, h, h2⟩
theorem bef_snoc (b : Int) (l : List R4) (x : R4) : Hp.bef b (l ++ [x]) (l ++ [x]).length = cr x := by
  rw [List.length_append]
  show ((l ++ [x])[l.length]?).elim 0 cr = _
  rw [List.getElem?_append_right (Nat.le_refl _), Nat.sub_self]
  rfl
theorem mi_step {m : Int} {k : Nat} {s : List R4 × Int} (h : Mi m k s) (hk : k ≤ 1000) (hm : 1 ≤ m) (z : Int) : Mi m (k + 1) (mstep m s z) := by
  have h1 := h.lo
  have h2 := h.hi
  have e3 : s.2 + z % 4000 % 4 ≤ s.2 + 3 := by omega
  have e4 : s.2 ≤ s.2 + z % 4000 % 4 := by omega
  unfold mstep
  by_cases hc : m ≤ cnt s.1 (hopN (z % 4000) 0).1 (hopN (z % 4000) 0).2.1 (hopN (z % 4000) 0).2.2.1
  · rw [if_pos hc]
    exact ⟨h.srt, Int.le_trans h.bef e4, by show 1 ≤ s.2 + z % 4000 % 4; omega, by show s.2 + z % 4000 % 4 ≤ _; push_cast; omega, Nat.le_succ_of_le h.len, h.most⟩
  · rw [if_neg hc]
    refine ⟨(srt_snoc _ _ _).2 ⟨h.srt, hopN_may (by omega) (by omega), Int.le_trans h.bef e4⟩, by rw [bef_snoc]; exact Int.le_refl _, by show 1 ≤ s.2 + z % 4000 % 4; omega, by show s.2 + z % 4000 % 4 ≤ _; push_cast; omega, ?_, fun o c d => ?_⟩
    · show (s.1 ++ _).length ≤ k + 1
      rw [List.length_append]
      have := h.len
      simp; omega
    · show (cnt (s.1 ++ _) o c d : Int) ≤ m
      rw [cnt_snoc]
      have h5 := h.most o c d
      by_cases hg : goes o c d (hopN (z % 4000) (s.2 + z % 4000 % 4)) = true
      · rw [if_pos hg]
        have : (hopN (z % 4000) 0).1 = o ∧ (hopN (z % 4000) 0).2.1 = c ∧ (hopN (z % 4000) 0).2.2.1 = d := by
          have := hg
          simpa [goes, hopN] using this
        rw [this.1, this.2.1, this.2.2] at hc
        push_cast; omega
      · rw [if_neg hg]; simpa using h5
theorem mi_nil {m : Int} (hm : 1 ≤ m) : Mi m 0 ([], 1) := ⟨trivial, by decide, by decide, by decide, by decide, fun o s d => by show ((0 : Nat) : Int) ≤ m; omega⟩
theorem mad_take {m : Int} {zs : List Int} {k : Nat} {z : Int} (h : zs[k]? = some z) : mad m (zs.take (k + 1)) = mstep m (mad m (zs.take k)) z := by
  unfold mad
  rw [List.take_add_one, h, List.foldl_append]
  rfl
theorem mi_take {m : Int} (hm : 1 ≤ m) (zs : List Int) (hl : zs.length ≤ 1000) : ∀ k, k ≤ zs.length → Mi m k (mad m (zs.take k))
  | 0, _ => mi_nil hm
  | k + 1, hk => by
    rw [mad_take (List.getElem?_eq_getElem (by omega))]
    exact mi_step (mi_take hm zs hl k (by omega)) (by omega) hm _
/-- What Add tells of the next hop. -/
theorem mad_add {m : Int} {k : Nat} {s : List R4 × Int} (h : Mi m k s) (hk : k ≤ 60) (hm : 1 ≤ m) (hm2 : m ≤ 16) (z : Int) :
    addE s.1 (hopN (z % 4000) (s.2 + z % 4000 % 4)) m = if m ≤ cnt s.1 (hopN (z % 4000) 0).1 (hopN (z % 4000) 0).2.1 (hopN (z % 4000) 0).2.2.1 then 22 else 0 := by
  have h1 := h.lo
  have h2 := h.hi
  have hok : (chk s.1).1 = 0 := chk_ok.2 ⟨by have := h.len; omega, h.srt⟩
  have hmay : may (hopN (z % 4000) (s.2 + z % 4000 % 4)) = true := hopN_may (by omega) (by omega)
  have hn : ¬ (may (hopN (z % 4000) (s.2 + z % 4000 % 4)) = false ∨ m < 1 ∨ 16 < m) := by
    rw [hmay]
    simp
    omega
  have hb : ¬ cr (hopN (z % 4000) (s.2 + z % 4000 % 4)) < bef 0 s.1 s.1.length := by
    have := h.bef
    show ¬ s.2 + z % 4000 % 4 < _
    omega
  obtain ⟨_, _, _, w4, _, w6⟩ := add_ways s.1 (hopN (z % 4000) (s.2 + z % 4000 % 4)) m
  by_cases hc : m ≤ cnt s.1 (hopN (z % 4000) 0).1 (hopN (z % 4000) 0).2.1 (hopN (z % 4000) 0).2.2.1
  · rw [if_pos hc]; exact w4 hok hn hb hc
  · rw [if_neg hc]; exact w6 hok hn hb hc (by have := h.len; omega)
end Hp
end Go.Proofs.Ytahhnfnonekbmaa
end

section
/-
  What CopyHops, OverHops and told make of lists of hops; what hop.Into and hop.isHop answer. Conditions: at most a billion hops.
-/
namespace Go.Proofs.Ytahhnfnonekbmaa
open Go.RowKit Go.Shelf
set_option linter.unusedVariables false
set_option linter.unusedSimpArgs false
namespace Hp
open Kk Pm

abbrev OwnH (w : World) (base : Nat) (v : Value) (l : List R4) : Prop := Rw.OwnR hR 24 w base v l
theorem underH : Try.prog.underlying 22 = some (.slice 24) := by kernel_rfl
set_option maxHeartbeats 1000000 in
theorem copy (A : Option Addr) (n c : Nat) (l : List R4) (w : World) (hi : Rw.RS hR w A n c l) (hn : n ≤ 1000000000) :
    Calls Try.prog 10 #[.slice A n c] w fun e w' => ∃ v, e = .returned v ∧ OwnH w' w.heap.size v l ∧ Bel w w' := by
  have HS := Lib.hid (hi.bel ((Bel.refl w).alloc (.cells #[] 24)))
  have HE := Lib.hid (Rw.own_empty hR 24 w)
  clear hi
  go_enter Try.func10, Try.ntmps10
  go_wp2_with (at_builtin; refine Rw.append_R hR rfl _ _ _ 24 rfl underH zero_h rfl (by decide) w.heap.size _ [] rfl HE.out A n c l rfl HS.out (by simp; omega) (by simp) ?_; intro v' w1 hown' hgrow)
  have HO := Lib.hid hown'
  have hb : Bel w w1 := Kk.Bel.grown ((Bel.refl w).alloc _) hgrow (fun k hk => (HE.out.lt k hk).1)
  clear hown' hgrow
  go_wp2
  go_ret
  exact ⟨_, rfl, HO.out, hb⟩

theorem putA_size : ∀ (vs : List Value) (C : Array Value) (o : Nat), (putA C o vs).size = C.size
  | [], _, _ => rfl
  | v :: r, C, o => by
    show (putA (C.setIfInBounds o v) (o + 1) r).size = _
    rw [putA_size r]; simp
theorem putA_other : ∀ (vs : List Value) (C : Array Value) (o j : Nat), (j < o ∨ o + vs.length ≤ j) → (putA C o vs)[j]? = C[j]?
  | [], _, _, _, _ => rfl
  | v :: r, C, o, j, h => by
    rw [List.length_cons] at h
    show (putA (C.setIfInBounds o v) (o + 1) r)[j]? = _
    rw [putA_other r _ _ _ (by omega), Array.getElem?_setIfInBounds, if_neg (by omega)]
theorem one4 (a b c d : Int) : (#[.int .i64 a, .int .i64 b, .int .i64 c, .int .i64 d] : Array Value).all (·.oneCell') = true := by simp [Value.oneCell']
theorem blk_get {w : World} {g : Nat} {cur : Array Value} {t : TypeId} (h : Blk w g cur t) {i : Nat} (hi : i < cur.size) : ∃ u, w.cell? ⟨g, i, none⟩ = some u := ⟨_, h.cell i (Array.getElem?_eq_getElem hi)⟩
set_option maxHeartbeats 4000000 in
theorem over (g o n c : Nat) (cur : Array Value) (w : World) (hb : Blk w g cur 24) (hlen : o + n * 4 ≤ cur.size) (hn : n ≤ 1000000000) :
    Calls Try.prog 50 #[.slice (some ⟨g, o, none⟩) n c] w fun e w' => e = .returned (.tuple #[]) ∧ Kep (fun k => k = g) w w' ∧ ∃ cur', Blk w' g cur' 24 ∧ cur'.size = cur.size ∧ ∀ j, (j < o ∨ o + n * 4 ≤ j) → cur'[j]? = cur[j]? := by
  have HB := Lib.hid hb
  clear hb
  go_enter Try.func50, Try.ntmps50
  go_wp2_with fail
  go_loopw [2] (fun i wr => ∃ k : Nat, i = .int .i64 k ∧ k ≤ n ∧ Hid (Kep (fun k => k = g) w wr ∧ ∃ cur', Blk wr g cur' 24 ∧ cur'.size = cur.size ∧ ∀ j, (j < o ∨ o + n * 4 ≤ j) → cur'[j]? = cur[j]?)) (fun i _ => n - (intOf i).toNat)
  case atStart => exact ⟨0, rfl, Nat.zero_le _, Lib.hid ⟨Kep.refl _ _, cur, HB.out, rfl, fun j _ => rfl⟩⟩
  case round =>
    obtain ⟨k, rfl, hk, hh⟩ := hrel
    by_cases hlt : k < n
    · obtain ⟨hkp, cu, hbu, hsz, hot⟩ := hh.out
      have HBU := Lib.hid hbu
      have HKP := Lib.hid hkp
      have HOT := Lib.hid hot
      have HSZ := Lib.hid hsz
      obtain ⟨a, ha⟩ : ∃ a, o + k * 4 = a := ⟨_, rfl⟩
      have hal : a + 4 ≤ cur.size := by omega
      have HAL := Lib.hid (show o ≤ a ∧ a + 4 ≤ o + n * 4 by omega)
      have TH := Lib.hid (bthere hbu a 4 (by omega))
      have hlt3 : (k : Int) < n := by omega
      have hlt0 : (0 : Int) ≤ k := by omega
      clear hkp hbu hot hsz hal
      go_upto_region 3 with fail
      iterate 13 (first | go_values | go_skip | go_guarded | go_step | go_upon | go_back)
      refine wpList_store_mid ?hgd 24 (.tmp 12) (.tmp 11) ?ho g a #[.int .i64 (-77), .int .i64 0, .int .i64 0, .int .i64 0] ?hx ?hy ?ht ?hi ?h1 ?h
      case hgd => rfl
      case ho => rfl
      case hx => rfl
      case hy => rfl
      case ht => exact TH.out
      case hi => exact info_h
      case h1 => exact one4 _ _ _ _
      have QB := Lib.hid (blk_setCells [.int .i64 (-77), .int .i64 0, .int .i64 0, .int .i64 0] a wr cu HBU.out)
      have QK := Lib.hid (HKP.out.trans (kep_setCells g [.int .i64 (-77), .int .i64 0, .int .i64 0, .int .i64 0] a wr))
      generalize hW : World.setCells wr g a _ = W at QB QK ⊢
      clear hW
      go_wp2_with fail
      go_roundw
      case rel =>
        refine ⟨k + 1, by go_num, by omega, Lib.hid ⟨QK.out, _, QB.out, by rw [putA_size]; exact HSZ.out, fun j hj => ?_⟩⟩
        have := HAL.out
        rw [putA_other _ _ _ _ (by simp; omega)]
        exact HOT.out j hj
      case measure => simp [intOf]; omega
    · obtain rfl : k = n := by omega
      go_wp2_with fail
      go_end0
      exact ⟨rfl, hh.out⟩
theorem over_none (A : Option Addr) (c : Nat) (w : World) :
    Calls Try.prog 50 #[.slice A 0 c] w fun e w' => e = .returned (.tuple #[]) ∧ w = w' := by
  go_enter Try.func50, Try.ntmps50
  go_wp2_with fail
  go_loop [2] (fun i => i = .int .i64 0) (fun _ => 0)
  case atStart => rfl
  case round =>
    subst hrel
    go_wp2
    go_end0
    exact ⟨rfl, rfl⟩
/-- Where rows may be written over. -/
def Lay (w : World) (A : Option Addr) (n : Nat) : Prop := 0 < n → ∃ g o cur, A = some ⟨g, o, none⟩ ∧ Blk w g cur 24 ∧ o + n * 4 ≤ cur.size
/-- What is left when they are. -/
structure Ov (A : Option Addr) (n : Nat) (w w' : World) : Prop where
  kep : Kep (fun k => 0 < n ∧ ∃ x, A = some x ∧ x.block = k) w w'
  row : ∀ g o cur, 0 < n → A = some ⟨g, o, none⟩ → Blk w g cur 24 → ∃ cur', Blk w' g cur' 24 ∧ cur'.size = cur.size ∧ ∀ j, (j < o ∨ o + n * 4 ≤ j) → cur'[j]? = cur[j]?
theorem over_any (A : Option Addr) (n c : Nat) (w : World) (h : Lay w A n) (hn : n ≤ 1000000000) :
    Calls Try.prog 50 #[.slice A n c] w fun e w' => e = .returned (.tuple #[]) ∧ Ov A n w w' := by
  by_cases h0 : 0 < n
  · obtain ⟨g, o, cur, rfl, hb, hl⟩ := h h0
    refine (over g o n c cur w hb hl hn).mono fun e w' h => ⟨h.1, h.2.1.mono fun k _ e => ⟨h0, _, rfl, e.symm⟩, fun g' o' cur' _ e hb' => ?_⟩
    injection e with e
    injection e with e1 e2
    subst e1 e2
    have : cur = cur' := by
      have := Option.some.inj ((show w.heap[g]? = _ from hb).symm.trans hb')
      injection this
    subst this
    exact h.2.2
  · obtain rfl : n = 0 := by omega
    refine (over_none A c w).mono fun e w' h => ⟨h.1, by rw [h.2]; exact Kep.refl _ _, fun g o cur h0 => absurd h0 (by omega)⟩
theorem Lay.bel {w w' : World} {A : Option Addr} {n : Nat} (h : Lay w A n) (hb : Bel w w') : Lay w' A n := fun h0 => by
  obtain ⟨g, o, cur, e, h1, h2⟩ := h h0
  exact ⟨g, o, cur, e, h1.bel hb, h2⟩
theorem Lay.kep {w w' : World} {A : Option Addr} {n : Nat} {S : Nat → Prop} (h : Lay w A n) (hb : Kep S w w') (hs : ∀ x, A = some x → ¬ S x.block) : Lay w' A n := fun h0 => by
  obtain ⟨g, o, cur, e, h1, h2⟩ := h h0
  exact ⟨g, o, cur, e, h1.kep hb (hs _ e), h2⟩
theorem lay_own {w : World} {base : Nat} {A : Option Addr} {n c : Nat} {l : List R4} (h : OwnH w base (.slice A n c) l) : Lay w A n := fun h0 => by
  rcases h.2 with ⟨e, _⟩ | ⟨g, cap, cur, e, _, hg, hl, _, hcs, _⟩
  · injection e with e1 e2 e3
    omega
  · injection e with e1 e2 e3
    subst e2
    exact ⟨g, 0, cur, e1, hg, by rw [Nat.zero_add, hcs]; exact Nat.mul_le_mul_right _ hl⟩
set_option maxHeartbeats 1000000 in
theorem told (A B : Option Addr) (n c m d : Nat) (l1 l2 : List R4) (w : World) (ha : Rw.RS hR w A n c l1) (hb : Rw.RS hR w B m d l2) (hl : Lay w A n) (hn : n ≤ 1000000000) (hm : m ≤ 1000000000) :
    Calls Try.prog 21 #[.slice A n c, .slice B m d] w fun e w' => e = .returned (.bool (decide (l1 = l2))) ∧ ∃ W, Bel w W ∧ Ov A n W w' := by
  have SM := Lib.hid (same_hops A B n c m d l1 l2 w ha hb hn hm)
  have HL := Lib.hid hl
  clear ha hb hl
  obtain ⟨y, hy⟩ : ∃ y, decide (l1 = l2) = y := ⟨_, rfl⟩
  rw [hy] at SM ⊢
  clear hy
  go_enter Try.func21, Try.ntmps21
  go_wp2_with fail
  refine SM.out.mono ?_
  rintro e w1 ⟨rfl, kb⟩
  have KB := Lib.hid kb
  have OV := Lib.hid (over_any A n c w1 (HL.out.bel kb) hn)
  clear kb SM
  go_wp2_with fail
  refine OV.out.mono ?_
  rintro e w2 ⟨rfl, ko⟩
  have KO := Lib.hid ko
  clear ko OV
  go_wp2_with fail
  go_ret
  exact ⟨rfl, w1, KB.out, KO.out⟩
set_option maxHeartbeats 1000000 in
theorem isHop (x1 x2 x3 x4 : Int) (w : World) :
    Calls Try.prog 46 #[.agg #[.int .i64 x1, .int .i64 x2, .int .i64 x3, .int .i64 x4]] w fun e w' => e = .returned (.bool (may (x1, x2, x3, x4))) ∧ Bel w w' := by
  have P0 := Lib.hid (Blk.new w #[.int .i64 x1, .int .i64 x2, .int .i64 x3, .int .i64 x4] 24)
  obtain ⟨W, hW⟩ : ∃ W, w.alloc (.cells #[.int .i64 x1, .int .i64 x2, .int .i64 x3, .int .i64 x4] 24) = W := ⟨_, rfl⟩
  have BW := Lib.hid (show Bel w W by rw [← hW]; exact (Bel.refl w).alloc _)
  rw [hW] at P0
  have P1 := Lib.hid (Blk.new W #[.int .i64 x1, .int .i64 x2, .int .i64 x3, .int .i64 x4] 24)
  obtain ⟨V, hV⟩ : ∃ W', W.alloc (.cells #[.int .i64 x1, .int .i64 x2, .int .i64 x3, .int .i64 x4] 24) = W' := ⟨_, rfl⟩
  have BV := Lib.hid (show Bel w V by rw [← hV]; exact BW.out.alloc _)
  rw [hV] at P1
  have CK := Lib.hid (check (some ⟨W.heap.size, 0, none⟩) 1 1 [(x1, x2, x3, x4)] V (Rw.rs_one hR (r := (x1, x2, x3, x4)) P1.out) (by decide))
  have hm : (chk [(x1, x2, x3, x4)]).1 = 0 ↔ may (x1, x2, x3, x4) = true := chk_one _
  obtain ⟨e1, he1⟩ : ∃ e, (chk [(x1, x2, x3, x4)]).1 = e := ⟨_, rfl⟩
  obtain ⟨e2, he2⟩ : ∃ e, (chk [(x1, x2, x3, x4)]).2 = e := ⟨_, rfl⟩
  rw [he1, he2] at CK
  rw [he1] at hm
  clear he1 he2
  have c0 := P0.out.cell 0 rfl
  have c1 := P0.out.cell 1 rfl
  have c2 := P0.out.cell 2 rfl
  have c3 := P0.out.cell 3 rfl
  by_cases h0 : e1 = 0
  · subst h0
    rw [hm.1 rfl]
    clear hm
    go_enter Try.func46, Try.ntmps46
    go_wp2_with fail
    refine CK.out.mono ?_
    rintro e w2 ⟨rfl, kb⟩
    have KB := Lib.hid (BV.out.trans kb)
    clear kb CK
    go_wp2_with fail
    go_ret
    exact ⟨rfl, KB.out⟩
  · have hf : may (x1, x2, x3, x4) = false := by
      cases h : may (x1, x2, x3, x4)
      · rfl
      · exact absurd (hm.2 h) h0
    have hne : (e1 == 0) = false := beq_eq_false_iff_ne.2 h0
    rw [hf]
    clear hm hf h0
    go_enter Try.func46, Try.ntmps46
    go_wp2_with fail
    refine CK.out.mono ?_
    rintro e w2 ⟨rfl, kb⟩
    have KB := Lib.hid (BV.out.trans kb)
    clear kb CK
    go_wp2_with fail
    go_ret
    exact ⟨rfl, KB.out⟩
end Hp
end Go.Proofs.Ytahhnfnonekbmaa
end
