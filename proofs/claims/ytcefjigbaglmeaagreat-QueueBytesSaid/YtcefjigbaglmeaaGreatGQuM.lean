/-
  What queues may be, what they have in all, what is ripe, what a cut takes: plain functions and their mathematics. Of the program only what a stamp may be.
-/
import Derived.Test.YtcefjigbaglmeaaGreatGSm0
import Derived.Test.YtcefjigbaglmeaaGreatGRw
namespace Go.Proofs.YtcefjigbaglmeaaGreat
open Go.RowKit Go.Shelf
set_option linter.unusedVariables false
namespace Qu

/-- An entry: owner, its stamp (validator, since, prior, from), created, initial, balance. -/
abbrev E8 := Int × Int × Int × Int × Int × Int × Int × Int
def eC : E8 → List Value
  | (o, v, s, p, f, c, i, n) => [.int .i64 o, .int .i64 v, .int .i64 s, .int .i64 p, .int .i64 f, .int .i64 c, .int .u64 i, .int .u64 n]
def eR : Rw.Row E8 where
  k := eC
  z := 8
  len := fun _ => rfl
  one := fun r u hu => by
    obtain ⟨a, b, c, d, e, f, g, h⟩ := r
    simp [eC] at hu
    rcases hu with rfl | rfl | rfl | rfl | rfl | rfl | rfl | rfl <;> rfl
  pos := by decide
/-- A shave: at, amount. -/
abbrev S2 := Int × Int
def sC : S2 → List Value
  | (a, n) => [.int .i64 a, .int .u64 n]
def sR : Rw.Row S2 where
  k := sC
  z := 2
  len := fun _ => rfl
  one := fun r u hu => by
    obtain ⟨a, b⟩ := r
    simp [sC] at hu
    rcases hu with rfl | rfl <;> rfl
  pos := by decide
def own : E8 → Int
  | (o, _) => o
def val : E8 → Int
  | (_, v, _) => v
def cr : E8 → Int
  | (_, _, _, _, _, c, _, _) => c
def ini : E8 → Int
  | (_, _, _, _, _, _, i, _) => i
def bal : E8 → Int
  | (_, _, _, _, _, _, _, n) => n
/-- Whose numbers may be at all. -/
def rng : E8 → Bool
  | (o, v, s, p, f, c, _, _) => decide ((0 ≤ o ∧ o < 64) ∧ Sm.ck v s p f = 0 ∧ 1 ≤ c ∧ c ≤ 4294967296)
def may : E8 → Bool
  | (o, v, s, p, f, c, i, n) => decide ((0 ≤ o ∧ o < 64) ∧ Sm.ck v s p f = 0 ∧ (1 ≤ c ∧ c ≤ 4294967296) ∧ s ≤ c ∧ i ≠ 0 ∧ n ≤ i)
theorem may_iff (o v s p f c i n : Int) : may (o, v, s, p, f, c, i, n) = true ↔ (0 ≤ o ∧ o < 64) ∧ Sm.ck v s p f = 0 ∧ (1 ≤ c ∧ c ≤ 4294967296) ∧ s ≤ c ∧ i ≠ 0 ∧ n ≤ i := by simp [may]
theorem may_cr {r : E8} (h : may r = true) : 1 ≤ cr r ∧ cr r ≤ 4294967296 := by
  obtain ⟨o, v, s, p, f, c, i, n⟩ := r
  exact ((may_iff o v s p f c i n).1 h).2.2.1
/-- The error of an entry behind one that was created at b. -/
def qE (b : Int) : E8 → Int
  | (o, v, s, p, f, c, i, n) => if rng (o, v, s, p, f, c, i, n) = false then 3 else if c < s ∨ c < b then 9 else if i = 0 then 14 else if i < n then 11 else 0
theorem rng_iff (o v s p f c i n : Int) : rng (o, v, s, p, f, c, i, n) = true ↔ (0 ≤ o ∧ o < 64) ∧ Sm.ck v s p f = 0 ∧ 1 ≤ c ∧ c ≤ 4294967296 := by simp [rng]
theorem qE_def (b o v s p f c i n : Int) : qE b (o, v, s, p, f, c, i, n) = if rng (o, v, s, p, f, c, i, n) = false then 3 else if c < s ∨ c < b then 9 else if i = 0 then 14 else if i < n then 11 else 0 := rfl
theorem qE_ok {b : Int} {r : E8} (h : qE b r = 0) : may r = true ∧ b ≤ cr r := by
  obtain ⟨o, v, s, p, f, c, i, n⟩ := r
  rw [qE_def] at h
  by_cases h1 : rng (o, v, s, p, f, c, i, n) = false
  · rw [if_pos h1] at h; cases h
  rw [if_neg h1] at h
  by_cases h2 : c < s ∨ c < b
  · rw [if_pos h2] at h; cases h
  rw [if_neg h2] at h
  by_cases h3 : i = 0
  · rw [if_pos h3] at h; cases h
  rw [if_neg h3] at h
  by_cases h4 : i < n
  · rw [if_pos h4] at h; cases h
  obtain ⟨q1, q2, q3⟩ := (rng_iff o v s p f c i n).1 (by simpa using h1)
  exact ⟨(may_iff o v s p f c i n).2 ⟨q1, q2, q3, by omega, h3, by omega⟩, by show b ≤ c; omega⟩
theorem qE_mk {b : Int} {r : E8} (h1 : may r = true) (h2 : b ≤ cr r) : qE b r = 0 := by
  obtain ⟨o, v, s, p, f, c, i, n⟩ := r
  obtain ⟨q1, q2, q3, q4, q5, q6⟩ := (may_iff o v s p f c i n).1 h1
  have h2 : b ≤ c := h2
  rw [qE_def, if_neg (by rw [(rng_iff o v s p f c i n).2 ⟨q1, q2, q3⟩]; decide), if_neg (by omega), if_neg q5, if_neg (by omega)]
def qk : Int → List E8 → Nat → Int × Nat
  | _, [], _ => (0, 0)
  | b, r :: l, i => if qE b r = 0 then qk (cr r) l (i + 1) else (qE b r, i)
/-- The height ahead of the entry i. -/
def bef (b : Int) (l : List E8) : Nat → Int
  | 0 => b
  | j + 1 => (l[j]?).elim 0 cr
theorem bef_cons (b : Int) (y : E8) (l : List E8) : ∀ j, bef b (y :: l) (j + 1) = bef (cr y) l j
  | 0 => rfl
  | j + 1 => rfl
theorem bef_succ {b : Int} {l : List E8} {k : Nat} {r : E8} (h : l[k]? = some r) : bef b l (k + 1) = cr r := by
  show (l[k]?).elim 0 cr = _
  rw [h]; rfl
theorem qk_at : ∀ (l : List E8) (b : Int) (i k : Nat) (r : E8), (∀ (j : Nat) (x : E8), j < k → l[j]? = some x → qE (bef b l j) x = 0) → l[k]? = some r → qE (bef b l k) r ≠ 0 → qk b l i = (qE (bef b l k) r, i + k)
  | [], b, i, k, r, _, h, _ => by simp at h
  | y :: l, b, i, 0, r, _, h, h0 => by
    simp at h; subst h
    exact if_neg h0
  | y :: l, b, i, k + 1, r, hz, h, h0 => by
    have h1 : qE b y = 0 := hz 0 y (by omega) rfl
    show (if qE b y = 0 then qk (cr y) l (i + 1) else _) = _
    rw [if_pos h1, bef_cons]
    rw [bef_cons] at h0
    rw [qk_at l (cr y) (i + 1) k r (fun j x hj hx => by rw [← bef_cons b]; exact hz (j + 1) x (by omega) (by simpa using hx)) (by simpa using h) h0]
    congr 1
    omega
theorem qk_end : ∀ (l : List E8) (b : Int) (i : Nat), (∀ (j : Nat) (x : E8), l[j]? = some x → qE (bef b l j) x = 0) → qk b l i = (0, 0)
  | [], b, i, _ => rfl
  | y :: l, b, i, hz => by
    show (if qE b y = 0 then qk (cr y) l (i + 1) else _) = _
    rw [if_pos (show qE b y = 0 from hz 0 y rfl)]
    exact qk_end l (cr y) (i + 1) (fun j x hx => by rw [← bef_cons b]; exact hz (j + 1) x (by simpa using hx))
/-- In order: each may be, none is created ahead of the one before. -/
def Srt (b : Int) : List E8 → Prop
  | [] => True
  | r :: l => may r = true ∧ b ≤ cr r ∧ Srt (cr r) l
theorem qk_srt : ∀ (l : List E8) (b : Int) (i : Nat), (qk b l i).1 = 0 → Srt b l
  | [], b, i, _ => trivial
  | y :: l, b, i, h => by
    by_cases h1 : qE b y = 0
    · have h' : qk b (y :: l) i = qk (cr y) l (i + 1) := if_pos h1
      rw [h'] at h
      exact ⟨(qE_ok h1).1, (qE_ok h1).2, qk_srt l (cr y) (i + 1) h⟩
    · have h' : qk b (y :: l) i = (qE b y, i) := if_neg h1
      rw [h'] at h
      exact absurd h h1
theorem srt_qk : ∀ (l : List E8) (b : Int) (i : Nat), Srt b l → qk b l i = (0, 0)
  | [], b, i, _ => rfl
  | y :: l, b, i, h => by
    show (if qE b y = 0 then qk (cr y) l (i + 1) else _) = _
    rw [if_pos (qE_mk h.1 h.2.1)]
    exact srt_qk l (cr y) (i + 1) h.2.2
theorem srt_le : ∀ (l : List E8) (b : Int), Srt b l → ∀ r ∈ l, may r = true ∧ b ≤ cr r
  | [], b, _, r, hr => by cases hr
  | y :: l, b, h, r, hr => by
    rcases List.mem_cons.1 hr with rfl | hr
    · exact ⟨h.1, h.2.1⟩
    · have := srt_le l (cr y) h.2.2 r hr
      exact ⟨this.1, Int.le_trans h.2.1 this.2⟩
theorem srt_snoc : ∀ (l : List E8) (b : Int) (x : E8), Srt b (l ++ [x]) ↔ Srt b l ∧ may x = true ∧ bef b l l.length ≤ cr x
  | [], b, x => ⟨fun h => ⟨trivial, h.1, h.2.1⟩, fun h => ⟨h.2.1, h.2.2, trivial⟩⟩
  | y :: l, b, x => by
    show (may y = true ∧ b ≤ cr y ∧ Srt (cr y) (l ++ [x])) ↔ (may y = true ∧ b ≤ cr y ∧ Srt (cr y) l) ∧ may x = true ∧ bef b (y :: l) (l.length + 1) ≤ cr x
    rw [srt_snoc l (cr y) x, bef_cons]
    constructor
    · rintro ⟨h1, h2, h3, h4, h5⟩
      exact ⟨⟨h1, h2, h3⟩, h4, h5⟩
    · rintro ⟨⟨h1, h2, h3⟩, h4, h5⟩
      exact ⟨h1, h2, h3, h4, h5⟩
theorem srt_get : ∀ (l : List E8) (b : Int), Srt b l → ∀ (i j : Nat) (x y : E8), i ≤ j → l[i]? = some x → l[j]? = some y → cr x ≤ cr y
  | [], b, _, i, j, x, y, _, h, _ => by simp at h
  | r :: l, b, h, 0, j, x, y, _, hx, hy => by
    simp at hx; subst hx
    cases j with
    | zero => simp at hy; subst hy; exact Int.le_refl _
    | succ j => exact (srt_le l (cr r) h.2.2 y (List.mem_of_getElem? (by simpa using hy))).2
  | r :: l, b, h, i + 1, 0, x, y, hij, _, _ => by omega
  | r :: l, b, h, i + 1, j + 1, x, y, hij, hx, hy => srt_get l (cr r) h.2.2 i j x y (by omega) (by simpa using hx) (by simpa using hy)
/-- The Balances in all. -/
def tot : List E8 → Int
  | [] => 0
  | r :: l => bal r + tot l
theorem tot_app : ∀ (l m : List E8), tot (l ++ m) = tot l + tot m
  | [], m => by show tot m = 0 + tot m; omega
  | r :: l, m => by
    show bal r + tot (l ++ m) = bal r + tot l + tot m
    rw [tot_app l m]; omega
theorem tot_take {l : List E8} {k : Nat} {r : E8} (h : l[k]? = some r) : tot (l.take (k + 1)) = tot (l.take k) + bal r := by
  rw [List.take_add_one, h, tot_app]
  show tot (l.take k) + (bal r + 0) = _
  omega
/-- Balances are words. -/
def Wd (l : List E8) : Prop := ∀ r ∈ l, 0 ≤ bal r ∧ bal r ≤ 18446744073709551615
theorem Wd.at {l : List E8} (h : Wd l) {k : Nat} {r : E8} (hr : l[k]? = some r) : 0 ≤ bal r ∧ bal r ≤ 18446744073709551615 := h r (List.mem_of_getElem? hr)
theorem tot_pos : ∀ {l : List E8}, Wd l → 0 ≤ tot l
  | [], _ => Int.le_refl _
  | r :: l, h => by
    have h1 := h r (List.mem_cons_self ..)
    have h2 := tot_pos (l := l) fun x hx => h x (List.mem_cons_of_mem _ hx)
    show 0 ≤ bal r + tot l
    omega
theorem tot_mono {l : List E8} (h : Wd l) (k : Nat) : tot (l.take k) ≤ tot l := by
  have e : l = l.take k ++ l.drop k := (List.take_append_drop k l).symm
  have h2 : 0 ≤ tot (l.drop k) := tot_pos fun x hx => h x (List.mem_of_mem_drop hx)
  conv => rhs; rw [e, tot_app]
  omega
/-- A sum that stays at the greatest word. -/
def cap (s : Int) : Int := if s ≤ 18446744073709551615 then s else 18446744073709551615
theorem cap_step {s b : Int} (h0 : 0 ≤ b) : cap (cap s + b) = cap (s + b) := by
  by_cases h : s ≤ 18446744073709551615
  · rw [show cap s = s from if_pos h]
  · rw [show cap s = 18446744073709551615 from if_neg h]
    unfold cap
    rw [if_neg (show ¬ s + b ≤ 18446744073709551615 by omega)]
    split <;> omega
theorem cap_big {s : Int} : 4611686018427387904 < cap s ↔ 4611686018427387904 < s := by
  unfold cap
  split <;> omega
theorem cap_of {s : Int} (h : s ≤ 18446744073709551615) : cap s = s := if_pos h
theorem cap_w {s : Int} (h : 0 ≤ s) : 0 ≤ cap s ∧ cap s ≤ 18446744073709551615 := by
  unfold cap
  split <;> omega
/-- What Check tells: the error, and where. -/
def chk (l : List E8) : Int × Nat := if 32768 < l.length then (4, 32768) else if (qk 0 l 0).1 ≠ 0 then qk 0 l 0 else if 4611686018427387904 < tot l then (12, 0) else (0, 0)
def Ok (l : List E8) : Prop := l.length ≤ 32768 ∧ Srt 0 l ∧ tot l ≤ 4611686018427387904
theorem chk_long {l : List E8} (h : 32768 < l.length) : chk l = (4, 32768) := if_pos h
theorem chk_bad {l : List E8} (h : ¬ 32768 < l.length) (h2 : (qk 0 l 0).1 ≠ 0) : chk l = qk 0 l 0 := by
  unfold chk
  rw [if_neg h, if_pos h2]
theorem chk_over {l : List E8} (h : ¬ 32768 < l.length) (h2 : qk 0 l 0 = (0, 0)) (h3 : 4611686018427387904 < tot l) : chk l = (12, 0) := by
  unfold chk
  rw [if_neg h, h2, if_neg (by decide), if_pos h3]
theorem chk_fine {l : List E8} (h : ¬ 32768 < l.length) (h2 : qk 0 l 0 = (0, 0)) (h3 : ¬ 4611686018427387904 < tot l) : chk l = (0, 0) := by
  unfold chk
  rw [if_neg h, h2, if_neg (by decide), if_neg h3]
theorem chk_ok {l : List E8} : (chk l).1 = 0 ↔ Ok l := by
  unfold chk Ok
  by_cases h : 32768 < l.length
  · rw [if_pos h]
    exact ⟨fun h' => (by cases h'), fun h' => absurd h'.1 (by omega)⟩
  rw [if_neg h]
  by_cases h2 : (qk 0 l 0).1 ≠ 0
  · rw [if_pos h2]
    exact ⟨fun h' => absurd h' h2, fun h' => absurd (show (qk 0 l 0).1 = 0 by rw [srt_qk l 0 0 h'.2.1]) h2⟩
  rw [if_neg h2]
  have h2 : (qk 0 l 0).1 = 0 := by omega
  by_cases h3 : 4611686018427387904 < tot l
  · rw [if_pos h3]
    exact ⟨fun h' => (by cases h'), fun h' => absurd h'.2.2 (by omega)⟩
  · rw [if_neg h3]
    exact ⟨fun _ => ⟨by omega, qk_srt l 0 0 h2, by omega⟩, fun _ => rfl⟩
theorem chk_zero {l : List E8} (h : (chk l).1 = 0) : chk l = (0, 0) := by
  obtain ⟨h1, h2, h3⟩ := chk_ok.1 h
  exact chk_fine (by omega) (srt_qk l 0 0 h2) (by omega)
/-- How many entries of an owner have a validator. -/
def isOf (o v : Int) (r : E8) : Bool := decide (own r = o ∧ val r = v)
def live (l : List E8) (o v : Int) : Nat := (l.filter (isOf o v)).length
theorem live_le (l : List E8) (o v : Int) : live l o v ≤ l.length := List.length_filter_le _ _
theorem live_take {l : List E8} {k : Nat} {r : E8} (h : l[k]? = some r) (o v : Int) : live (l.take (k + 1)) o v = live (l.take k) o v + (if isOf o v r = true then 1 else 0) := by
  unfold live
  rw [List.take_add_one, h, List.filter_append, List.length_append]
  congr 1
  show (List.filter (isOf o v) [r]).length = _
  by_cases hq : isOf o v r = true <;> simp [hq]
theorem live_snoc (l : List E8) (r : E8) (o v : Int) : live (l ++ [r]) o v = live l o v + (if isOf o v r = true then 1 else 0) := by
  unfold live
  rw [List.filter_append, List.length_append]
  congr 1
  by_cases hq : isOf o v r = true <;> simp [hq]
/-- An owner's entries. -/
def ofL (l : List E8) (o : Int) : List E8 := l.filter fun r => decide (own r = o)
theorem of_take {l : List E8} {k : Nat} {r : E8} (h : l[k]? = some r) (o : Int) : ofL (l.take (k + 1)) o = ofL (l.take k) o ++ (if own r = o then [r] else []) := by
  unfold ofL
  rw [List.take_add_one, h, List.filter_append]
  congr 1
  show List.filter (fun r => decide (own r = o)) [r] = _
  by_cases hq : own r = o <;> simp [hq]
/-- What Add tells: its error. -/
def addE (l : List E8) (x : E8) (m : Int) : Int :=
  if (chk l).1 ≠ 0 then (chk l).1 else if m < 1 ∨ 16 < m then 3 else if qE (bef 0 l l.length) x ≠ 0 then qE (bef 0 l l.length) x else if bal x ≠ ini x then 11
  else if m ≤ live l (own x) (val x) then 22 else if l.length = 32768 then 7 else if 4611686018427387904 < tot l + bal x then 12 else 0
def addL (l : List E8) (x : E8) (m : Int) : List E8 := if addE l x m = 0 then l ++ [x] else []
theorem addL_ne {l : List E8} {x : E8} {m : Int} (h : addE l x m ≠ 0) : addL l x m = [] := if_neg h
theorem addL_eq {l : List E8} {x : E8} {m : Int} (h : addE l x m = 0) : addL l x m = l ++ [x] := if_pos h
section
variable {l : List E8} {x : E8} {m : Int}
theorem addE_0 (h : (chk l).1 ≠ 0) : addE l x m = (chk l).1 := if_pos h
theorem addE_3 (h : (chk l).1 = 0) (h1 : m < 1 ∨ 16 < m) : addE l x m = 3 := by
  unfold addE; rw [if_neg (by omega), if_pos h1]
theorem addE_q (h : (chk l).1 = 0) (h1 : ¬ (m < 1 ∨ 16 < m)) (h2 : qE (bef 0 l l.length) x ≠ 0) : addE l x m = qE (bef 0 l l.length) x := by
  unfold addE; rw [if_neg (by omega), if_neg h1, if_pos h2]
theorem addE_11 (h : (chk l).1 = 0) (h1 : ¬ (m < 1 ∨ 16 < m)) (h2 : qE (bef 0 l l.length) x = 0) (h3 : bal x ≠ ini x) : addE l x m = 11 := by
  unfold addE; rw [if_neg (by omega), if_neg h1, if_neg (by omega), if_pos h3]
theorem addE_22 (h : (chk l).1 = 0) (h1 : ¬ (m < 1 ∨ 16 < m)) (h2 : qE (bef 0 l l.length) x = 0) (h3 : bal x = ini x) (h4 : m ≤ live l (own x) (val x)) : addE l x m = 22 := by
  unfold addE; rw [if_neg (by omega), if_neg h1, if_neg (by omega), if_neg (by omega), if_pos h4]
theorem addE_7 (h : (chk l).1 = 0) (h1 : ¬ (m < 1 ∨ 16 < m)) (h2 : qE (bef 0 l l.length) x = 0) (h3 : bal x = ini x) (h4 : ¬ m ≤ live l (own x) (val x)) (h5 : l.length = 32768) : addE l x m = 7 := by
  unfold addE; rw [if_neg (by omega), if_neg h1, if_neg (by omega), if_neg (by omega), if_neg h4, if_pos h5]
theorem addE_12 (h : (chk l).1 = 0) (h1 : ¬ (m < 1 ∨ 16 < m)) (h2 : qE (bef 0 l l.length) x = 0) (h3 : bal x = ini x) (h4 : ¬ m ≤ live l (own x) (val x)) (h5 : l.length ≠ 32768) (h6 : 4611686018427387904 < tot l + bal x) : addE l x m = 12 := by
  unfold addE; rw [if_neg (by omega), if_neg h1, if_neg (by omega), if_neg (by omega), if_neg h4, if_neg h5, if_pos h6]
theorem addE_ok (h : (chk l).1 = 0) (h1 : ¬ (m < 1 ∨ 16 < m)) (h2 : qE (bef 0 l l.length) x = 0) (h3 : bal x = ini x) (h4 : ¬ m ≤ live l (own x) (val x)) (h5 : l.length ≠ 32768) (h6 : ¬ 4611686018427387904 < tot l + bal x) : addE l x m = 0 := by
  unfold addE; rw [if_neg (by omega), if_neg h1, if_neg (by omega), if_neg (by omega), if_neg h4, if_neg h5, if_neg h6]
end
/-- The ripe ones, and the others, by the last height that is ripe. -/
def rip (l : List E8) (m : Int) : List E8 := l.filter fun r => decide (cr r ≤ m)
def lft (l : List E8) (m : Int) : List E8 := l.filter fun r => decide (m < cr r)
def ripE (l : List E8) (h u : Int) : Int := if (chk l).1 ≠ 0 then (chk l).1 else if ¬ (1 ≤ h ∧ h ≤ 4294967296 ∧ 1 ≤ u ∧ u ≤ 1048576) then 3 else 0
def ripL (l : List E8) (h u : Int) : List E8 := if ripE l h u = 0 then rip l (h - u) else []
def lftL (l : List E8) (h u : Int) : List E8 := if ripE l h u = 0 then lft l (h - u) else []
theorem rip_at : ∀ (l : List E8) (b : Int), Srt b l → ∀ (m : Int) (n : Nat), n ≤ l.length → (∀ (i : Nat) (x : E8), i < n → l[i]? = some x → cr x ≤ m) → (∀ (i : Nat) (x : E8), n ≤ i → l[i]? = some x → m < cr x) → rip l m = l.take n ∧ lft l m = l.drop n := by
  intro l b hs m n hn h1 h2
  have e1 : ∀ r ∈ l.take n, cr r ≤ m := fun r hr => by
    obtain ⟨i, hi, rfl⟩ := List.getElem_of_mem hr
    rw [List.length_take] at hi
    exact h1 i _ (by omega) (by rw [List.getElem_take]; exact List.getElem?_eq_getElem _)
  have e2 : ∀ r ∈ l.drop n, m < cr r := fun r hr => by
    obtain ⟨i, hi, rfl⟩ := List.getElem_of_mem hr
    rw [List.length_drop] at hi
    exact h2 (n + i) _ (by omega) (by rw [List.getElem_drop]; exact List.getElem?_eq_getElem _)
  have e : l = l.take n ++ l.drop n := (List.take_append_drop n l).symm
  constructor
  · unfold rip
    conv => lhs; rw [e]
    rw [List.filter_append, List.filter_eq_self.2 (fun r hr => decide_eq_true (e1 r hr)), List.filter_eq_nil_iff.2 (fun r hr => by have := e2 r hr; simp; omega), List.append_nil]
  · unfold lft
    conv => lhs; rw [e]
    rw [List.filter_append, List.filter_eq_nil_iff.2 (fun r hr => by have := e1 r hr; simp; omega), List.filter_eq_self.2 (fun r hr => decide_eq_true (e2 r hr)), List.nil_append]
/-- What Total tells: its error; its number. -/
def totN (l : List E8) : Int := if (chk l).1 = 0 then tot l else 0
end Qu
end Go.Proofs.YtcefjigbaglmeaaGreat
