/-
  Texts of this claim, put together: RoM, RwEq16, Ro2, Ro3, RoB. What each one says, and under which conditions, stands ahead of it.
-/
import Derived.Laws.StructEq
import Derived.ChangeKeysEq
import Derived.WalkMore
import Derived.Maps.AppendAt
import Derived.Laws.OwnMore
import Derived.Test.YtpfdakkameifkaaGRw

section
/-
  What rosters are, and what becomes of them: plain functions and their mathematics. No program.
-/
namespace Go.Proofs.Ytpfdakkameifkaa
open Go.RowKit Go.Shelf
set_option linter.unusedVariables false
namespace Ro

/-- A validator: operator, minself, status, until, and whether it was punished for attestations, for proposals. -/
abbrev V6 := Int × Int × Int × Int × Bool × Bool
def vC : V6 → List Value
  | (o, m, s, u, a, p) => [.int .i64 o, .int .u64 m, .int .i64 s, .int .i64 u, .bool a, .bool p]
def vR : Rw.Row V6 where
  k := vC
  z := 6
  len := fun _ => rfl
  one := fun r u hu => by
    obtain ⟨a, b, c, d, e, f⟩ := r
    simp [vC] at hu
    rcases hu with rfl | rfl | rfl | rfl | rfl | rfl <;> rfl
  pos := by decide
def op : V6 → Int
  | (o, _) => o
def st : V6 → Int
  | (_, _, s, _) => s
def un : V6 → Int
  | (_, _, _, u, _) => u
def att : V6 → Bool
  | (_, _, _, _, a, _) => a
def pro : V6 → Bool
  | (_, _, _, _, _, p) => p
def rngB (o s u : Int) : Bool := decide (0 ≤ o ∧ o < 64 ∧ 1 ≤ s ∧ s ≤ 4 ∧ 0 ≤ u ∧ u ≤ 4296015872)
def agrB (s u : Int) (a p : Bool) : Bool := (decide (s = 4) == a) && (!(decide (s = 3) || a || p) || !decide (u = 0))
/-- The error of a validator, where it is known whether its operator has one ahead of it. -/
def vE (h : Bool) : V6 → Int
  | (o, m, s, u, a, p) => if rngB o s u = false then 3 else if m = 0 then 2 else if h = true then 8 else if agrB s u a p = false then 11 else 0
/-- The first validator of an operator. -/
def fnd (l : List V6) (o : Int) : Option Nat := l.findIdx? (fun r => decide (op r = o))
def has (l : List V6) (o : Int) : Bool := (fnd l o).isSome
theorem fnd_take {l : List V6} {k : Nat} {r : V6} (h : l[k]? = some r) (o : Int) : fnd (l.take (k + 1)) o = (fnd (l.take k) o).or (if op r = o then some k else none) := by
  have hk := (List.getElem?_eq_some_iff.1 h).1
  have e : l.take (k + 1) = l.take k ++ [r] := by rw [List.take_add_one, h]; rfl
  unfold fnd
  rw [e, List.findIdx?_append]
  congr 1
  by_cases hr : op r = o
  · simp [hr, List.length_take, Nat.min_eq_left (Nat.le_of_lt hk)]
  · simp [hr]
theorem fnd_stay {l : List V6} {k : Nat} {o : Int} {i : Nat} (h : fnd (l.take k) o = some i) : fnd l o = some i := by
  have e : l = l.take k ++ l.drop k := (List.take_append_drop k l).symm
  rw [show fnd l o = fnd (l.take k ++ l.drop k) o by rw [← e]]
  unfold fnd at h ⊢
  rw [List.findIdx?_append, h]; rfl
theorem fnd_lt {l : List V6} {o : Int} {i : Nat} (h : fnd l o = some i) : ∃ r, l[i]? = some r ∧ op r = o := by
  unfold fnd at h
  rw [List.findIdx?_eq_some_iff_getElem] at h
  obtain ⟨h1, h2, _⟩ := h
  exact ⟨_, List.getElem?_eq_getElem h1, by simpa using h2⟩
theorem fnd_none {l : List V6} {o : Int} : fnd l o = none ↔ ∀ r ∈ l, op r ≠ o := by
  unfold fnd
  rw [List.findIdx?_eq_none_iff]
  exact ⟨fun h r hr => of_decide_eq_false (h r hr), fun h r hr => decide_eq_false (h r hr)⟩
theorem has_iff {l : List V6} {o : Int} : has l o = true ↔ ∃ r ∈ l, op r = o := by
  unfold has
  cases h : fnd l o with
  | none => simpa using fnd_none.1 h
  | some i =>
    obtain ⟨r, h1, h2⟩ := fnd_lt h
    exact ⟨fun _ => ⟨r, List.mem_of_getElem? h1, h2⟩, fun _ => rfl⟩
/-- Where the map of all has the operator of x, which stands at k. -/
theorem fnd_at {l : List V6} {k : Nat} {r : V6} (h : l[k]? = some r) : ∃ j, fnd l (op r) = some j ∧ j ≤ k ∧ has (l.take k) (op r) = decide (j < k) := by
  cases hf : fnd (l.take k) (op r) with
  | some j =>
    obtain ⟨y, h1, h2⟩ := fnd_lt hf
    have := (List.getElem?_eq_some_iff.1 h1).1
    rw [List.length_take] at this
    refine ⟨j, fnd_stay hf, by omega, ?_⟩
    unfold has
    rw [hf, decide_eq_true (by omega)]
    rfl
  | none =>
    have := fnd_take h (op r)
    rw [hf, if_pos rfl] at this
    refine ⟨k, fnd_stay (k := k + 1) this, Nat.le_refl _, ?_⟩
    unfold has
    rw [hf, decide_eq_false (by omega)]
    rfl
/-- The error of the validator k behind those ahead of it. -/
def eA (l : List V6) (k : Nat) : Int := (l[k]?).elim 0 (fun r => vE (has (l.take k) (op r)) r)
theorem eA_at {l : List V6} {k : Nat} {r : V6} (h : l[k]? = some r) : eA l k = vE (has (l.take k) (op r)) r := by
  unfold eA; rw [h]; rfl
/-- The first error, from k on. -/
def ckF (l : List V6) : Nat → Nat → Int × Nat
  | 0, _ => (0, 0)
  | f + 1, k => if eA l k = 0 then ckF l f (k + 1) else (eA l k, k)
def chk (l : List V6) : Int × Nat := if 32 < l.length then (4, 32) else ckF l l.length 0
theorem ckF_at (l : List V6) : ∀ (f k j : Nat), (∀ i, k ≤ i → i < j → eA l i = 0) → k ≤ j → j < k + f → eA l j ≠ 0 → ckF l f k = (eA l j, j)
  | 0, k, j, _, h1, h2, _ => by omega
  | f + 1, k, j, h, h1, h2, h3 => by
    unfold ckF
    by_cases hk : k = j
    · subst hk
      rw [if_neg h3]
    · rw [if_pos (h k (Nat.le_refl _) (by omega))]
      exact ckF_at l f (k + 1) j (fun i h4 h5 => h i (by omega) h5) (by omega) (by omega) h3
theorem ckF_end (l : List V6) : ∀ (f k : Nat), (∀ i, k ≤ i → i < k + f → eA l i = 0) → ckF l f k = (0, 0)
  | 0, k, _ => rfl
  | f + 1, k, h => by
    unfold ckF
    rw [if_pos (h k (Nat.le_refl _) (by omega))]
    exact ckF_end l f (k + 1) (fun i h4 h5 => h i (by omega) (by omega))
theorem ckF_inv (l : List V6) : ∀ (f k : Nat), (ckF l f k).1 = 0 → ∀ i, k ≤ i → i < k + f → eA l i = 0
  | 0, k, _, i, h1, h2 => by omega
  | f + 1, k, h, i, h1, h2 => by
    unfold ckF at h
    by_cases h0 : eA l k = 0
    · rw [if_pos h0] at h
      by_cases hk : i = k
      · rw [hk]; exact h0
      · exact ckF_inv l f (k + 1) h i (by omega) (by omega)
    · rw [if_neg h0] at h
      exact absurd h h0
theorem chk_long {l : List V6} (h : 32 < l.length) : chk l = (4, 32) := if_pos h
theorem chk_at {l : List V6} {k : Nat} (hl : ¬ 32 < l.length) (h : ∀ i, i < k → eA l i = 0) (hk : k < l.length) (h0 : eA l k ≠ 0) : chk l = (eA l k, k) := by
  unfold chk
  rw [if_neg hl]
  exact ckF_at l _ 0 k (fun i _ h2 => h i h2) (by omega) (by omega) h0
theorem chk_end {l : List V6} (hl : ¬ 32 < l.length) (h : ∀ i, i < l.length → eA l i = 0) : chk l = (0, 0) := by
  unfold chk
  rw [if_neg hl]
  exact ckF_end l _ 0 (fun i _ h2 => h i (by omega))
theorem chk_ok {l : List V6} : (chk l).1 = 0 ↔ l.length ≤ 32 ∧ ∀ i, i < l.length → eA l i = 0 := by
  constructor
  · intro h
    by_cases hl : 32 < l.length
    · rw [chk_long hl] at h; cases h
    · refine ⟨by omega, fun i hi => ?_⟩
      unfold chk at h
      rw [if_neg hl] at h
      exact ckF_inv l _ 0 h i (by omega) (by omega)
  · rintro ⟨h1, h2⟩
    rw [chk_end (by omega) h2]
theorem chk_ok2 {l : List V6} (h : (chk l).1 = 0) : chk l = (0, 0) := by
  obtain ⟨h1, h2⟩ := chk_ok.1 h
  exact chk_end (by omega) h2
/-- What a good validator is. -/
def Gd : V6 → Prop
  | (o, m, s, u, a, p) => 0 ≤ o ∧ o < 64 ∧ m ≠ 0 ∧ 1 ≤ s ∧ s ≤ 4 ∧ 0 ≤ u ∧ u ≤ 4296015872 ∧ (s = 4 ↔ a = true) ∧ ((s = 3 ∨ a = true ∨ p = true) → u ≠ 0)
theorem agr_iff {s u : Int} {a p : Bool} : agrB s u a p = true ↔ (s = 4 ↔ a = true) ∧ ((s = 3 ∨ a = true ∨ p = true) → u ≠ 0) := by
  unfold agrB
  cases a <;> cases p <;> by_cases h1 : s = 4 <;> by_cases h2 : s = 3 <;> by_cases h3 : u = 0 <;> simp [h1, h2, h3]
theorem rng_iff {o s u : Int} : rngB o s u = true ↔ 0 ≤ o ∧ o < 64 ∧ 1 ≤ s ∧ s ≤ 4 ∧ 0 ≤ u ∧ u ≤ 4296015872 := by
  unfold rngB; exact decide_eq_true_iff
theorem vE_ok {h : Bool} {r : V6} : vE h r = 0 ↔ Gd r ∧ h = false := by
  obtain ⟨o, m, s, u, a, p⟩ := r
  have h1 := @rng_iff o s u
  have h2 := @agr_iff s u a p
  show (if rngB o s u = false then (3 : Int) else if m = 0 then 2 else if h = true then 8 else if agrB s u a p = false then 11 else 0) = 0 ↔ (0 ≤ o ∧ o < 64 ∧ m ≠ 0 ∧ 1 ≤ s ∧ s ≤ 4 ∧ 0 ≤ u ∧ u ≤ 4296015872 ∧ (s = 4 ↔ a = true) ∧ ((s = 3 ∨ a = true ∨ p = true) → u ≠ 0)) ∧ h = false
  cases hx : rngB o s u
  · rw [if_pos rfl]
    have : ¬ (0 ≤ o ∧ o < 64 ∧ 1 ≤ s ∧ s ≤ 4 ∧ 0 ≤ u ∧ u ≤ 4296015872) := fun h => by rw [← h1, hx] at h; cases h
    constructor
    · intro h; cases h
    · rintro ⟨⟨q1, q2, q3, q4, q5, q6, q7, q8⟩, _⟩
      exact absurd ⟨q1, q2, q4, q5, q6, q7⟩ this
  · rw [if_neg (by decide)]
    have q := h1.1 hx
    by_cases hm : m = 0
    · rw [if_pos hm]
      exact ⟨fun h => (by cases h), fun h => absurd hm h.1.2.2.1⟩
    · rw [if_neg hm]
      cases h
      · rw [if_neg (by decide)]
        cases hy : agrB s u a p
        · rw [if_pos rfl]
          have : ¬ ((s = 4 ↔ a = true) ∧ ((s = 3 ∨ a = true ∨ p = true) → u ≠ 0)) := fun h => by rw [← h2, hy] at h; cases h
          exact ⟨fun h => (by cases h), fun h => absurd h.1.2.2.2.2.2.2.2 this⟩
        · rw [if_neg (by decide)]
          exact ⟨fun _ => ⟨⟨q.1, q.2.1, hm, q.2.2.1, q.2.2.2.1, q.2.2.2.2.1, q.2.2.2.2.2, h2.1 hy⟩, rfl⟩, fun _ => rfl⟩
      · rw [if_pos rfl]
        exact ⟨fun h => (by cases h), fun h => by cases h.2⟩
/-- A roster that may be. -/
def Ok (l : List V6) : Prop := l.length ≤ 32 ∧ ∀ (k : Nat) (r : V6), l[k]? = some r → Gd r ∧ has (l.take k) (op r) = false
theorem ok_iff {l : List V6} : (chk l).1 = 0 ↔ Ok l := by
  rw [chk_ok]
  constructor
  · rintro ⟨h1, h2⟩
    refine ⟨h1, fun k r hr => ?_⟩
    have := h2 k (List.getElem?_eq_some_iff.1 hr).1
    rw [eA_at hr] at this
    exact vE_ok.1 this
  · rintro ⟨h1, h2⟩
    refine ⟨h1, fun k hk => ?_⟩
    have hr := List.getElem?_eq_getElem hk
    rw [eA_at hr]
    exact vE_ok.2 (h2 k _ hr)

/-- Create. -/
def crE (l : List V6) (o m : Int) : Int := if (chk l).1 ≠ 0 then (chk l).1 else if ¬ (0 ≤ o ∧ o < 64) then 3 else if m = 0 then 2 else if has l o = true then 8 else if l.length = 32 then 7 else 0
def newV (o m : Int) : V6 := (o, m, 1, 0, false, false)
def crL (l : List V6) (o m : Int) : List V6 := if crE l o m = 0 then l ++ [newV o m] else []
def crN (l : List V6) (o m : Int) : Nat := if crE l o m = 0 then l.length else 0
/-- The validator v, if there is one. -/
def nth (l : List V6) (v : Int) : Option V6 := if 0 ≤ v then l[v.toNat]? else none
def reE (l : List V6) (v : Int) : Int := (nth l v).elim 10 (fun r => if st r = 4 then 20 else 0)
def free (r : V6) : Bool := decide (st r = 1) || decide (st r = 2)
def acts (r : V6) : Bool := decide (st r = 2)
/-- Choose. -/
def clash : List V6 → List Bool → Bool
  | r :: l, b :: bs => (b && !free r) || clash l bs
  | _, _ => false
def chE (l : List V6) (b : List Bool) : Int := if (chk l).1 ≠ 0 then (chk l).1 else if b.length ≠ l.length then 2 else if clash l b = true then 11 else 0
def setS (s : Int) : V6 → V6
  | (o, m, _, u, a, p) => (o, m, s, u, a, p)
def pick (r : V6) (b : Bool) : V6 := if free r = true then setS (if b = true then 2 else 1) r else r
def chL (l : List V6) (b : List Bool) : List V6 := if chE l b = 0 then l.zipWith pick b else []
def untB (n : Int) : Bool := decide (1 ≤ n ∧ n ≤ 4296015872)
/-- What is changed in a roster. -/
def upd (l : List V6) (v : Int) (E : Int) (f : V6 → V6) : List V6 := if E = 0 then (match nth l v with | some r => l.set v.toNat (f r) | none => []) else []
/-- The error of a change: of the roster, of the number, of what is changed. -/
def cgE (l : List V6) (v : Int) (e : V6 → Int) : Int := if (chk l).1 ≠ 0 then (chk l).1 else (nth l v).elim 10 e
def jaE (tl : Int) (r : V6) : Int := if st r = 4 then 20 else if untB tl = false then 3 else 0
def jaF (tl : Int) : V6 → V6
  | (o, m, _, u, a, p) => (o, m, 3, max u tl, a, p)
def unE (b h : Int) (r : V6) : Int := if b ≠ op r then 24 else if st r = 4 then 20 else if free r = true then 11 else if h < un r then 21 else 0
def pdE (l : List V6) (v c : Int) : Int := if (chk l).1 ≠ 0 then (chk l).1 else if ¬ (c = 1 ∨ c = 2) then 2 else (nth l v).elim 10 (fun r => if st r = 4 then 20 else if c = 2 ∧ pro r = true then 19 else 0)
def puE (l : List V6) (v c tl : Int) : Int := if pdE l v c ≠ 0 then pdE l v c else if untB tl = false then 3 else 0
def puF (c tl : Int) : V6 → V6
  | (o, m, _, u, a, p) => if c = 1 then (o, m, 4, max u tl, true, p) else (o, m, 3, max u tl, a, true)
end Ro
end Go.Proofs.Ytpfdakkameifkaa
end

section
/-
  What == and != of structs of integers tell, field by field. No condition.
-/
namespace Go.Proofs.Ytpfdakkameifkaa
open Go.RowKit Go.Shelf
set_option linter.unusedVariables false
set_option linter.unusedSimpArgs false
namespace Rw

theorem eqF_cons {P : Program} {d : Nat} {xs ys : Array Value} {f : Field} {fs : List Field} {W : World} {a b : Value} {r s : Bool} (hn : f.name ≠ "_") (h1 : (part f.type xs f.offset).run P W = .ok a W) (h2 : (part f.type ys f.offset).run P W = .ok b W)
    (h3 : (Op.equalIn d f.type a b).run P W = .ok r W) (h4 : (Op.eqFields d xs ys fs).run P W = .ok s W) : (Op.eqFields d xs ys (f :: fs)).run P W = .ok (r && s) W := by
  cases r <;> simp [Op.eqFields, hn, h1, h2, h3, h4, Sem.run_ite]
theorem eqF_nil {P : Program} {d : Nat} {xs ys : Array Value} {W : World} : (Op.eqFields d xs ys []).run P W = .ok true W := rfl
theorem partI {P : Program} {t : TypeId} {q : IntKind} (hu : P.underlying t = some (.int q)) {xs : Array Value} {i : Nat} {v : Value} (hx : xs[i]? = some v) (w : World) : (part t xs i).run P w = .ok v w := by
  simp [part, isAgg, run_underlying hu, hx]
theorem partB {P : Program} {t : TypeId} (hu : P.underlying t = some .bool) {xs : Array Value} {i : Nat} {v : Value} (hx : xs[i]? = some v) (w : World) : (part t xs i).run P w = .ok v w := by
  simp [part, isAgg, run_underlying hu, hx]
theorem partS {P : Program} {t : TypeId} {fs : Array Field} (hu : P.underlying t = some (.struct fs)) {z : Nat} (hz : (P.info? t).map (·.size) = some z) {xs ys : Array Value} {i : Nat} (he : xs.extract i (i + z) = ys) (w : World) : (part t xs i).run P w = .ok (.agg ys) w := by
  cases hq : P.info? t with
  | none => rw [hq] at hz; cases hz
  | some k =>
    rw [hq] at hz
    simp at hz
    subst hz
    simp [part, isAgg, run_underlying hu, sizeOf, typeInfo, hq, he]
theorem exec_neq {P : Program} {a : Act} {o : Oper} {t t2 : TypeId} {x y : Operand} (ho : o.op = .binOp .neq t x y t2) (xs ys : Array Value) (hx : a.eval x = .agg xs) (hy : a.eval y = .agg ys) (hm : P.eqGuardType P.depth t = false)
    {b : Bool} (hb : ∀ w, (binOp .neq t (.agg xs) (.agg ys)).run P w = .ok (.bool b) w) (w : World) : (execOp a.eval o).run P w = .ok (.value (.bool b)) w := by
  unfold execOp
  simp only [ho, hx, hy, Sem.run_bind, run_eqGuard_agg (hm := hm), Result.andThen_ok, hb, Sem.run_pure]
theorem exec_eql {P : Program} {a : Act} {o : Oper} {t t2 : TypeId} {x y : Operand} (ho : o.op = .binOp .eql t x y t2) (xs ys : Array Value) (hx : a.eval x = .agg xs) (hy : a.eval y = .agg ys) (hm : P.eqGuardType P.depth t = false)
    {b : Bool} (hb : ∀ w, (binOp .eql t (.agg xs) (.agg ys)).run P w = .ok (.bool b) w) (w : World) : (execOp a.eval o).run P w = .ok (.value (.bool b)) w := by
  unfold execOp
  simp only [ho, hx, hy, Sem.run_bind, run_eqGuard_agg (hm := hm), Result.andThen_ok, hb, Sem.run_pure]
/-- An operation that yields a value, whether it is guarded or not, as an arm of a walk. -/
theorem wpList_val {P : Program} {ops : Array Oper} {rest : List Oper} {o : Oper} {a : Act} {w : World} {Q : Exit → Act → World → Prop} (hw : Region.wanted o (yielded ops a.tmps) = true) (V : Value) (hr : ∀ w, (execOp a.eval o).run P w = .ok (.value V) w)
    (h : wpList P ops Q rest (a.put o.dst V) w) : wpList P ops Q (o :: rest) a w :=
  wpList_step fun K hK => by
    rw [if_pos hw]
    unfold Oper.wp
    rw [hr]
    exact hK _ _ h

theorem eqIn_validator (d : Nat) (a0 : Int) (a1 : Int) (a2 : Int) (a3 : Int) (a4 : Bool) (a5 : Bool) (b0 : Int) (b1 : Int) (b2 : Int) (b3 : Int) (b4 : Bool) (b5 : Bool) (W : World) : (Op.equalIn (d + 2) 66 (.agg #[Value.int .i64 a0, Value.int .u64 a1, Value.int .i64 a2, Value.int .i64 a3, Value.bool a4, Value.bool a5]) (.agg #[Value.int .i64 b0, Value.int .u64 b1, Value.int .i64 b2, Value.int .i64 b3, Value.bool b4, Value.bool b5])).run Try.prog W = .ok ((a0 == b0) && ((a1 == b1) && ((a2 == b2) && ((a3 == b3) && ((a4 == b4) && ((a5 == b5) && true)))))) W := by
  have hS : Try.prog.underlying 66 = some (.struct (Try.prog.fieldsOf 66)) := by kernel_rfl
  rw [show d + 2 = (d + 1) + 1 from rfl, run_equalIn_struct W (d + 1) _ _ _ hS (by kernel_rfl)]
  simp only [Program.fieldsOf, Try.underlying66]
  exact eqF_cons (by decide) (partI Try.underlying3 rfl _) (partI Try.underlying3 rfl _) (run_equalIn_int W _ _ _ _ _ _ Try.underlying3) (eqF_cons (by decide) (partI Try.underlying23 rfl _) (partI Try.underlying23 rfl _) (run_equalIn_int W _ _ _ _ _ _ Try.underlying23) (eqF_cons (by decide) (partI Try.underlying3 rfl _) (partI Try.underlying3 rfl _) (run_equalIn_int W _ _ _ _ _ _ Try.underlying3) (eqF_cons (by decide) (partI Try.underlying3 rfl _) (partI Try.underlying3 rfl _) (run_equalIn_int W _ _ _ _ _ _ Try.underlying3) (eqF_cons (by decide) (partB Try.underlying4 rfl _) (partB Try.underlying4 rfl _) (run_equalIn_bool W _ _ _ _ Try.underlying4) (eqF_cons (by decide) (partB Try.underlying4 rfl _) (partB Try.underlying4 rfl _) (run_equalIn_bool W _ _ _ _ Try.underlying4) (eqF_nil))))))
theorem eq_validator (a0 : Int) (a1 : Int) (a2 : Int) (a3 : Int) (a4 : Bool) (a5 : Bool) (b0 : Int) (b1 : Int) (b2 : Int) (b3 : Int) (b4 : Bool) (b5 : Bool) : ((a0 == b0) && ((a1 == b1) && ((a2 == b2) && ((a3 == b3) && ((a4 == b4) && ((a5 == b5) && true)))))) = decide ((a0, a1, a2, a3, a4, a5) = (b0, b1, b2, b3, b4, b5)) := by
  rw [Bool.eq_iff_iff]
  simp only [Bool.and_eq_true, beq_iff_eq, Prod.mk.injEq, and_assoc, and_true, decide_eq_true_eq]
theorem eql_validator (a0 : Int) (a1 : Int) (a2 : Int) (a3 : Int) (a4 : Bool) (a5 : Bool) (b0 : Int) (b1 : Int) (b2 : Int) (b3 : Int) (b4 : Bool) (b5 : Bool) (W : World) : (binOp .eql 66 (.agg #[Value.int .i64 a0, Value.int .u64 a1, Value.int .i64 a2, Value.int .i64 a3, Value.bool a4, Value.bool a5]) (.agg #[Value.int .i64 b0, Value.int .u64 b1, Value.int .i64 b2, Value.int .i64 b3, Value.bool b4, Value.bool b5])).run Try.prog W = .ok (.bool (decide ((a0, a1, a2, a3, a4, a5) = (b0, b1, b2, b3, b4, b5)))) W := by
  rw [run_eql_struct, show (10000 : Nat) = 9998 + 2 from rfl, eqIn_validator, eq_validator]
  rfl
theorem neq_validator (a0 : Int) (a1 : Int) (a2 : Int) (a3 : Int) (a4 : Bool) (a5 : Bool) (b0 : Int) (b1 : Int) (b2 : Int) (b3 : Int) (b4 : Bool) (b5 : Bool) (W : World) : (binOp .neq 66 (.agg #[Value.int .i64 a0, Value.int .u64 a1, Value.int .i64 a2, Value.int .i64 a3, Value.bool a4, Value.bool a5]) (.agg #[Value.int .i64 b0, Value.int .u64 b1, Value.int .i64 b2, Value.int .i64 b3, Value.bool b4, Value.bool b5])).run Try.prog W = .ok (.bool (!decide ((a0, a1, a2, a3, a4, a5) = (b0, b1, b2, b3, b4, b5)))) W := by
  rw [run_neq_struct, show (10000 : Nat) = 9998 + 2 from rfl, eqIn_validator, eq_validator]
  rfl

theorem eqIn_fault (d : Nat) (a0 : Int) (a1 : Int) (b0 : Int) (b1 : Int) (W : World) : (Op.equalIn (d + 2) 54 (.agg #[Value.int .i64 a0, Value.int .i64 a1]) (.agg #[Value.int .i64 b0, Value.int .i64 b1])).run Try.prog W = .ok ((a0 == b0) && ((a1 == b1) && true)) W := by
  have hS : Try.prog.underlying 54 = some (.struct (Try.prog.fieldsOf 54)) := by kernel_rfl
  rw [show d + 2 = (d + 1) + 1 from rfl, run_equalIn_struct W (d + 1) _ _ _ hS (by kernel_rfl)]
  simp only [Program.fieldsOf, Try.underlying54]
  exact eqF_cons (by decide) (partI Try.underlying26 rfl _) (partI Try.underlying26 rfl _) (run_equalIn_int W _ _ _ _ _ _ Try.underlying26) (eqF_cons (by decide) (partI Try.underlying3 rfl _) (partI Try.underlying3 rfl _) (run_equalIn_int W _ _ _ _ _ _ Try.underlying3) (eqF_nil))
theorem eq_fault (a0 : Int) (a1 : Int) (b0 : Int) (b1 : Int) : ((a0 == b0) && ((a1 == b1) && true)) = decide ((a0, a1) = (b0, b1)) := by
  rw [Bool.eq_iff_iff]
  simp only [Bool.and_eq_true, beq_iff_eq, Prod.mk.injEq, and_assoc, and_true, decide_eq_true_eq]
theorem eql_fault (a0 : Int) (a1 : Int) (b0 : Int) (b1 : Int) (W : World) : (binOp .eql 54 (.agg #[Value.int .i64 a0, Value.int .i64 a1]) (.agg #[Value.int .i64 b0, Value.int .i64 b1])).run Try.prog W = .ok (.bool (decide ((a0, a1) = (b0, b1)))) W := by
  rw [run_eql_struct, show (10000 : Nat) = 9998 + 2 from rfl, eqIn_fault, eq_fault]
  rfl
theorem neq_fault (a0 : Int) (a1 : Int) (b0 : Int) (b1 : Int) (W : World) : (binOp .neq 54 (.agg #[Value.int .i64 a0, Value.int .i64 a1]) (.agg #[Value.int .i64 b0, Value.int .i64 b1])).run Try.prog W = .ok (.bool (!decide ((a0, a1) = (b0, b1)))) W := by
  rw [run_neq_struct, show (10000 : Nat) = 9998 + 2 from rfl, eqIn_fault, eq_fault]
  rfl

end Rw
end Go.Proofs.Ytpfdakkameifkaa
end

section
/-
  What the kit's Same functions tell of two lists of rows. Conditions: at most a billion rows.
-/
namespace Go.Proofs.Ytpfdakkameifkaa
open Go.RowKit Go.Shelf
set_option linter.unusedVariables false
set_option linter.unusedSimpArgs false
namespace Ro
open Kk Pm

set_option maxRecDepth 100000 in
set_option maxHeartbeats 4000000 in
theorem same_validators (A B : Option Addr) (n c m d : Nat) (l1 l2 : List _) (w : World) (ha : Rw.RS vR w A n c l1) (hb : Rw.RS vR w B m d l2) (hn : n ≤ 1000000000) (hm : m ≤ 1000000000) :
    Calls Try.prog 13 #[.slice A n c, .slice B m d] w fun e w' => e = .returned (.bool (decide (l1 = l2))) ∧ Bel w w' := by
  have HA := Lib.hid ha
  have HB := Lib.hid hb
  have HLA := Lib.hid ha.len
  have HLB := Lib.hid hb.len
  clear ha hb
  by_cases hnm : n = m
  · subst hnm
    have hbb : ((n : Int) == n) = true := by simp
    go_enter Try.func13, Try.ntmps13
    go_wp2_with fail
    go_loopw [5, 6] (fun s i wr => ∃ k : Nat, k ≤ n ∧ i = .int .i64 k ∧ Bel w wr ∧ ∃ b : Bool, s = .bool b ∧ (b = true → l1.take k = l2.take k) ∧ (b = false → l1 ≠ l2)) (fun _ i _ => n - (intOf i).toNat)
    case atStart => exact ⟨0, Nat.zero_le _, rfl, Bel.refl _, true, rfl, fun _ => rfl, fun h => by cases h⟩
    case round =>
      obtain ⟨k, hk, rfl, hbel, b, rfl, ht, hf⟩ := hrel
      cases b with
      | false =>
        have HD := Lib.hid (show decide (l1 = l2) = false from decide_eq_false (hf rfl))
        have HBE := Lib.hid hbel
        clear ht hf hbel
        go_wp2
        go_ret
        exact ⟨by rw [HD.out]; rfl, HBE.out⟩
      | true =>
        have HT := Lib.hid (ht rfl)
        clear ht hf
        by_cases hlt : k < n
        · obtain ⟨⟨a0, a1, a2, a3, a4, a5⟩, hr1⟩ := HA.out.get hlt
          obtain ⟨⟨b0, b1, b2, b3, b4, b5⟩, hr2⟩ := HB.out.get hlt
          obtain ⟨g1, o1, rfl, _, c1⟩ := (HA.out.bel hbel).at hlt hr1
          obtain ⟨g2, o2, rfl, _, c2⟩ := (HB.out.bel hbel).at hlt hr2
          have HC1 := Lib.hid (show wr.rangeAt g1 (o1 + k * 6) #[.int .i64 a0, .int .u64 a1, .int .i64 a2, .int .i64 a3, .bool a4, .bool a5].toList from c1)
          have HC2 := Lib.hid (show wr.rangeAt g2 (o2 + k * 6) #[.int .i64 b0, .int .u64 b1, .int .i64 b2, .int .i64 b3, .bool b4, .bool b5].toList from c2)
          have HBE := Lib.hid hbel
          have EQ := Lib.hid (fun V => Rw.eql_validator a0 a1 a2 a3 a4 a5 b0 b1 b2 b3 b4 b5 V)
          have HNX := Lib.hid (show ∀ y : Bool, decide ((a0, a1, a2, a3, a4, a5) = (b0, b1, b2, b3, b4, b5)) = y → (y = true → l1.take (k + 1) = l2.take (k + 1)) ∧ (y = false → l1 ≠ l2) from fun y hy => by
            refine ⟨fun h => ?_, fun h e => ?_⟩
            · rw [List.take_add_one, List.take_add_one, hr1, hr2, HT.out, of_decide_eq_true (hy.trans h)]
            · subst e
              rw [decide_eq_true (Option.some.inj (hr1.symm.trans hr2))] at hy
              rw [← hy] at h
              cases h)
          obtain ⟨y, hy⟩ : ∃ y, decide ((a0, a1, a2, a3, a4, a5) = (b0, b1, b2, b3, b4, b5)) = y := ⟨_, rfl⟩
          have HNX := Lib.hid (HNX.out y hy)
          replace EQ := Lib.hid (show ∀ V, (binOp .eql 66 (.agg #[.int .i64 a0, .int .u64 a1, .int .i64 a2, .int .i64 a3, .bool a4, .bool a5]) (.agg #[.int .i64 b0, .int .u64 b1, .int .i64 b2, .int .i64 b3, .bool b4, .bool b5])).run Try.prog V = .ok (.bool y) V from fun V => by rw [← hy]; exact EQ.out V)
          have hlt3 : (k : Int) < n := by omega
          have hlt0 : (0 : Int) ≤ k := by omega
          clear hr1 hr2 c1 c2 hbel hy
          go_upto_region 5 with fail
          refine wp_region_held_drew (S := fun Vx => Bel wr Vx) (by kernel_rfl) (Bel.refl _).drew (fun hS0 => ?_)
          obtain ⟨w6, hw6⟩ : ∃ w6, World.drew wr = w6 := ⟨_, rfl⟩
          rw [hw6] at hS0 ⊢
          clear hw6
          refine wpAnyH_take (i := 0) (oi := { dst := some 21, op := .move (.tmp 0), type := 22, pos := "validators.go:9", after := #[], guard := none }) (v := .slice (some ⟨g1, o1, none⟩) n c) rfl (by kernel_rfl) (by kernel_rfl) (by kernel_rfl) (fun _ _ _ h => h) (Or.inl ⟨by rfl, by intro w hSw; clear hSw; go_simp⟩) hS0 ?_
          try simp only [Act.put, List.setIfInBounds_toArray, List.set_cons_zero, List.set_cons_succ]
          refine wpAnyH_take (i := 1) (oi := { dst := some 22, op := .move (.tmp 6), type := 3, pos := "validators.go:9", after := #[], guard := none }) (v := .int .i64 k) rfl (by kernel_rfl) (by kernel_rfl) (by kernel_rfl) (fun _ _ _ h => h) (Or.inl ⟨by rfl, by intro w hSw; clear hSw; go_simp⟩) hS0 ?_
          try simp only [Act.put, List.setIfInBounds_toArray, List.set_cons_zero, List.set_cons_succ]
          refine wpAnyH_take (i := 2) (oi := { dst := some 23, op := .indexAddr 22 (.tmp 21) (.tmp 22), type := 0, pos := "validators.go:9", after := #[{ on := 0, ground := .data }, { on := 1, ground := .data }], guard := none }) (v := .pointer (some ⟨g1, o1 + k * 6, none⟩)) rfl (by kernel_rfl) (by kernel_rfl) (by kernel_rfl) (fun _ _ _ h => h) (Or.inl ⟨by rfl, by intro w hSw; clear hSw; go_simp⟩) hS0 ?_
          try simp only [Act.put, List.setIfInBounds_toArray, List.set_cons_zero, List.set_cons_succ]
          refine wpAnyH_take (i := 3) (oi := { dst := some 24, op := .load 66 (.tmp 23), type := 66, pos := "validators.go:9", after := #[{ on := 2, ground := .data }], guard := none }) (v := .agg #[.int .i64 a0, .int .u64 a1, .int .i64 a2, .int .i64 a3, .bool a4, .bool a5]) rfl (by kernel_rfl) (by kernel_rfl) (by kernel_rfl) (fun _ _ _ h => h) (yieldsIf_load_mid (by rfl) _ _ rfl _ _ rfl _ _ (fun w h => rng_bel HC1.out h) Try.underlying66 rfl (by kernel_rfl)) hS0 ?_
          try simp only [Act.put, List.setIfInBounds_toArray, List.set_cons_zero, List.set_cons_succ]
          refine wpAnyH_take (i := 4) (oi := { dst := some 25, op := .move (.tmp 1), type := 22, pos := "validators.go:9", after := #[], guard := none }) (v := .slice (some ⟨g2, o2, none⟩) n d) rfl (by kernel_rfl) (by kernel_rfl) (by kernel_rfl) (fun _ _ _ h => h) (Or.inl ⟨by rfl, by intro w hSw; clear hSw; go_simp⟩) hS0 ?_
          try simp only [Act.put, List.setIfInBounds_toArray, List.set_cons_zero, List.set_cons_succ]
          refine wpAnyH_take (i := 5) (oi := { dst := some 26, op := .move (.tmp 6), type := 3, pos := "validators.go:9", after := #[], guard := none }) (v := .int .i64 k) rfl (by kernel_rfl) (by kernel_rfl) (by kernel_rfl) (fun _ _ _ h => h) (Or.inl ⟨by rfl, by intro w hSw; clear hSw; go_simp⟩) hS0 ?_
          try simp only [Act.put, List.setIfInBounds_toArray, List.set_cons_zero, List.set_cons_succ]
          refine wpAnyH_take (i := 6) (oi := { dst := some 27, op := .indexAddr 22 (.tmp 25) (.tmp 26), type := 0, pos := "validators.go:9", after := #[{ on := 4, ground := .data }, { on := 5, ground := .data }], guard := none }) (v := .pointer (some ⟨g2, o2 + k * 6, none⟩)) rfl (by kernel_rfl) (by kernel_rfl) (by kernel_rfl) (fun _ _ _ h => h) (Or.inl ⟨by rfl, by intro w hSw; clear hSw; go_simp⟩) hS0 ?_
          try simp only [Act.put, List.setIfInBounds_toArray, List.set_cons_zero, List.set_cons_succ]
          refine wpAnyH_take (i := 7) (oi := { dst := some 28, op := .load 66 (.tmp 27), type := 66, pos := "validators.go:9", after := #[{ on := 6, ground := .data }], guard := none }) (v := .agg #[.int .i64 b0, .int .u64 b1, .int .i64 b2, .int .i64 b3, .bool b4, .bool b5]) rfl (by kernel_rfl) (by kernel_rfl) (by kernel_rfl) (fun _ _ _ h => h) (yieldsIf_load_mid (by rfl) _ _ rfl _ _ rfl _ _ (fun w h => rng_bel HC2.out h) Try.underlying66 rfl (by kernel_rfl)) hS0 ?_
          try simp only [Act.put, List.setIfInBounds_toArray, List.set_cons_zero, List.set_cons_succ]
          refine wpAnyH_take (i := 8) (oi := { dst := some 29, op := .binOp .eql 66 (.tmp 24) (.tmp 28) 66, type := 4, pos := "validators.go:9", after := #[{ on := 3, ground := .data }, { on := 7, ground := .data }], guard := none }) (v := .bool y) rfl (by kernel_rfl) (by kernel_rfl) (by kernel_rfl) (fun _ _ _ h => h) (Or.inl ⟨by rfl, fun w _ => Rw.exec_eql rfl _ _ rfl rfl (by kernel_rfl) EQ.out w⟩) hS0 ?_
          try simp only [Act.put, List.setIfInBounds_toArray, List.set_cons_zero, List.set_cons_succ]
          refine wpAnyH_take (i := 9) (oi := { dst := some 5, op := .assign (.tmp 29), type := 4, pos := "validators.go:9", after := #[{ on := 8, ground := .data }, { on := 0, ground := .phase }, { on := 1, ground := .phase }, { on := 2, ground := .phase }, { on := 3, ground := .phase }, { on := 4, ground := .phase }, { on := 5, ground := .phase }, { on := 6, ground := .phase }, { on := 7, ground := .phase }, { on := 8, ground := .phase }], guard := none }) (v := .bool y) rfl (by kernel_rfl) (by kernel_rfl) (by kernel_rfl) (fun _ _ _ h => h) (Or.inl ⟨by rfl, by intro w hSw; clear hSw; go_simp⟩) hS0 ?_
          try simp only [Act.put, List.setIfInBounds_toArray, List.set_cons_zero, List.set_cons_succ]
          refine wpAnyH_done (by kernel_rfl) ?_ _
          have HE := Lib.hid (HBE.out.trans hS0)
          clear HC1 HC2 EQ HBE
          go_wp2_with fail
          go_roundw
          case rel => exact ⟨k + 1, by omega, by go_num, HE.out, y, rfl, HNX.out.1, HNX.out.2⟩
          case measure => simp [intOf]; omega
        · obtain rfl : k = n := by omega
          have HD := Lib.hid (show decide (l1 = l2) = true from decide_eq_true (by
            have h := HT.out
            rwa [List.take_of_length_le (by rw [HLA.out]; exact Nat.le_refl _), List.take_of_length_le (by rw [HLB.out]; exact Nat.le_refl _)] at h))
          have HBE := Lib.hid hbel
          clear hbel
          go_wp2
          go_ret
          exact ⟨by rw [HD.out]; rfl, HBE.out⟩
  · have HD := Lib.hid (show decide (l1 = l2) = false from decide_eq_false (fun e => hnm (by
      have := congrArg List.length e
      rw [HLA.out, HLB.out] at this
      exact this)))
    have hbb : ((n : Int) == m) = false := by simp; omega
    clear hnm
    go_enter Try.func13, Try.ntmps13
    go_wp2_with fail
    go_loop [5] (fun s => s = .bool false) (fun _ => 0)
    case atStart => rfl
    case round =>
      subst hrel
      go_wp2
      go_ret
      exact ⟨by rw [HD.out]; rfl, Bel.refl _⟩

end Ro
end Go.Proofs.Ytpfdakkameifkaa
end

section
/-
  What CopyValidators and OverValidators make of lists of validators. Conditions: at most a billion validators.
-/
namespace Go.Proofs.Ytpfdakkameifkaa
open Go.RowKit Go.Shelf
set_option linter.unusedVariables false
set_option linter.unusedSimpArgs false
namespace Ro
open Kk Pm

theorem info_v : (Try.prog.info? 66).map (·.size) = some 6 := by kernel_rfl
theorem zero_v : (Try.prog.info? 66).map (fun i => (i.zero, i.size, i.bytes)) = some (some (.agg #[.int .i64 0, .int .u64 0, .int .i64 0, .int .i64 0, .bool false, .bool false]), 6, 40) := by kernel_rfl
theorem load_v {w : World} {b : Nat} {x1 x2 x3 x4 : Int} {x5 x6 : Bool} (h : Blk w b #[.int .i64 x1, .int .u64 x2, .int .i64 x3, .int .i64 x4, .bool x5, .bool x6] 66) : (loadVar 66 ⟨b, 0, none⟩).run Try.prog w = .ok (.agg #[.int .i64 x1, .int .u64 x2, .int .i64 x3, .int .i64 x4, .bool x5, .bool x6]) w :=
  load_b (C := [.int .i64 x1, .int .u64 x2, .int .i64 x3, .int .i64 x4, .bool x5, .bool x6]) h Try.underlying66 rfl info_v
theorem rng6 {w : World} {b o : Nat} {a1 a2 a3 a4 a5 a6 : Value} (h : w.rangeAt b o [a1, a2, a3, a4, a5, a6]) : w.cell? ⟨b, o, none⟩ = some a1 ∧ w.cell? ⟨b, o + 1, none⟩ = some a2 ∧ w.cell? ⟨b, o + 2, none⟩ = some a3 ∧ w.cell? ⟨b, o + 3, none⟩ = some a4 ∧ w.cell? ⟨b, o + 4, none⟩ = some a5 ∧ w.cell? ⟨b, o + 5, none⟩ = some a6 :=
  ⟨h 0 _ rfl, h 1 _ rfl, h 2 _ rfl, h 3 _ rfl, h 4 _ rfl, h 5 _ rfl⟩
abbrev OwnV (w : World) (base : Nat) (v : Value) (l : List V6) : Prop := Rw.OwnR vR 66 w base v l
theorem underV : Try.prog.underlying 22 = some (.slice 66) := by kernel_rfl
set_option maxHeartbeats 1000000 in
theorem copy (A : Option Addr) (n c : Nat) (l : List V6) (w : World) (hi : Rw.RS vR w A n c l) (hn : n ≤ 1000000000) :
    Calls Try.prog 10 #[.slice A n c] w fun e w' => ∃ v, e = .returned v ∧ OwnV w' w.heap.size v l ∧ Bel w w' := by
  have HS := Lib.hid (hi.bel ((Bel.refl w).alloc (.cells #[] 66)))
  have HE := Lib.hid (Rw.own_empty vR 66 w)
  clear hi
  go_enter Try.func10, Try.ntmps10
  go_wp2_with (at_builtin; refine Rw.append_R vR rfl _ _ _ 66 rfl underV zero_v rfl (by decide) w.heap.size _ [] rfl HE.out A n c l rfl HS.out (by simp; omega) (by simp) ?_; intro v' w1 hown' hgrow)
  have HO := Lib.hid hown'
  have hb : Bel w w1 := Kk.Bel.grown ((Bel.refl w).alloc _) hgrow (fun k hk => (HE.out.lt k hk).1)
  clear hown' hgrow
  go_wp2
  go_ret
  exact ⟨_, rfl, HO.out, hb⟩

theorem putA_size : ∀ (vs : List Value) (C : Array Value) (o : Nat), (putA C o vs).size = C.size
  | [], _, _ => rfl
  | v :: r, C, o => by
    show (putA (C.setIfInBounds o v) (o + 1) r).size = _
    rw [putA_size r]; simp
theorem putA_other : ∀ (vs : List Value) (C : Array Value) (o j : Nat), (j < o ∨ o + vs.length ≤ j) → (putA C o vs)[j]? = C[j]?
  | [], _, _, _, _ => rfl
  | v :: r, C, o, j, h => by
    rw [List.length_cons] at h
    show (putA (C.setIfInBounds o v) (o + 1) r)[j]? = _
    rw [putA_other r _ _ _ (by omega), Array.getElem?_setIfInBounds, if_neg (by omega)]
theorem one6 (a b c d : Int) (e f : Bool) : (#[.int .i64 a, .int .u64 b, .int .i64 c, .int .i64 d, .bool e, .bool f] : Array Value).all (·.oneCell') = true := by simp [Value.oneCell']
theorem blk_get {w : World} {g : Nat} {cur : Array Value} {t : TypeId} (h : Blk w g cur t) {i : Nat} (hi : i < cur.size) : ∃ u, w.cell? ⟨g, i, none⟩ = some u := ⟨_, h.cell i (Array.getElem?_eq_getElem hi)⟩
set_option maxHeartbeats 4000000 in
theorem over (g o n c : Nat) (cur : Array Value) (w : World) (hb : Blk w g cur 66) (hlen : o + n * 6 ≤ cur.size) (hn : n ≤ 1000000000) :
    Calls Try.prog 14 #[.slice (some ⟨g, o, none⟩) n c] w fun e w' => e = .returned (.tuple #[]) ∧ Kep (fun k => k = g) w w' ∧ ∃ cur', Blk w' g cur' 66 ∧ cur'.size = cur.size ∧ ∀ j, (j < o ∨ o + n * 6 ≤ j) → cur'[j]? = cur[j]? := by
  have HB := Lib.hid hb
  clear hb
  go_enter Try.func14, Try.ntmps14
  go_wp2_with fail
  go_loopw [2] (fun i wr => ∃ k : Nat, i = .int .i64 k ∧ k ≤ n ∧ Hid (Kep (fun k => k = g) w wr ∧ ∃ cur', Blk wr g cur' 66 ∧ cur'.size = cur.size ∧ ∀ j, (j < o ∨ o + n * 6 ≤ j) → cur'[j]? = cur[j]?)) (fun i _ => n - (intOf i).toNat)
  case atStart => exact ⟨0, rfl, Nat.zero_le _, Lib.hid ⟨Kep.refl _ _, cur, HB.out, rfl, fun j _ => rfl⟩⟩
  case round =>
    obtain ⟨k, rfl, hk, hh⟩ := hrel
    by_cases hlt : k < n
    · obtain ⟨hkp, cu, hbu, hsz, hot⟩ := hh.out
      have HBU := Lib.hid hbu
      have HKP := Lib.hid hkp
      have HOT := Lib.hid hot
      have HSZ := Lib.hid hsz
      obtain ⟨a, ha⟩ : ∃ a, o + k * 6 = a := ⟨_, rfl⟩
      have hal : a + 6 ≤ cur.size := by omega
      have HAL := Lib.hid (show o ≤ a ∧ a + 6 ≤ o + n * 6 by omega)
      have TH := Lib.hid (bthere hbu a 6 (by omega))
      have hlt3 : (k : Int) < n := by omega
      have hlt0 : (0 : Int) ≤ k := by omega
      clear hkp hbu hot hsz hal
      go_upto_region 3 with fail
      iterate 13 (first | go_values | go_skip | go_guarded | go_step | go_upon | go_back)
      refine wpList_store_mid ?hgd 66 (.tmp 12) (.tmp 11) ?ho g a #[.int .i64 (-77), .int .u64 0, .int .i64 0, .int .i64 0, .bool false, .bool false] ?hx ?hy ?ht ?hi ?h1 ?h
      case hgd => rfl
      case ho => rfl
      case hx => rfl
      case hy => rfl
      case ht => exact TH.out
      case hi => exact info_v
      case h1 => exact one6 _ _ _ _ _ _
      have QB := Lib.hid (blk_setCells [.int .i64 (-77), .int .u64 0, .int .i64 0, .int .i64 0, .bool false, .bool false] a wr cu HBU.out)
      have QK := Lib.hid (HKP.out.trans (kep_setCells g [.int .i64 (-77), .int .u64 0, .int .i64 0, .int .i64 0, .bool false, .bool false] a wr))
      generalize hW : World.setCells wr g a _ = W at QB QK ⊢
      clear hW
      go_wp2_with fail
      go_roundw
      case rel =>
        refine ⟨k + 1, by go_num, by omega, Lib.hid ⟨QK.out, _, QB.out, by rw [putA_size]; exact HSZ.out, fun j hj => ?_⟩⟩
        have := HAL.out
        rw [putA_other _ _ _ _ (by simp; omega)]
        exact HOT.out j hj
      case measure => simp [intOf]; omega
    · obtain rfl : k = n := by omega
      go_wp2_with fail
      go_end0
      exact ⟨rfl, hh.out⟩
theorem over_none (A : Option Addr) (c : Nat) (w : World) :
    Calls Try.prog 14 #[.slice A 0 c] w fun e w' => e = .returned (.tuple #[]) ∧ w = w' := by
  go_enter Try.func14, Try.ntmps14
  go_wp2_with fail
  go_loop [2] (fun i => i = .int .i64 0) (fun _ => 0)
  case atStart => rfl
  case round =>
    subst hrel
    go_wp2
    go_end0
    exact ⟨rfl, rfl⟩
/-- Where rows may be written over. -/
def Lay (w : World) (A : Option Addr) (n : Nat) : Prop := 0 < n → ∃ g o cur, A = some ⟨g, o, none⟩ ∧ Blk w g cur 66 ∧ o + n * 6 ≤ cur.size
/-- What is left when they are. -/
structure Ov (A : Option Addr) (n : Nat) (w w' : World) : Prop where
  kep : Kep (fun k => 0 < n ∧ ∃ x, A = some x ∧ x.block = k) w w'
  row : ∀ g o cur, 0 < n → A = some ⟨g, o, none⟩ → Blk w g cur 66 → ∃ cur', Blk w' g cur' 66 ∧ cur'.size = cur.size ∧ ∀ j, (j < o ∨ o + n * 6 ≤ j) → cur'[j]? = cur[j]?
theorem over_any (A : Option Addr) (n c : Nat) (w : World) (h : Lay w A n) (hn : n ≤ 1000000000) :
    Calls Try.prog 14 #[.slice A n c] w fun e w' => e = .returned (.tuple #[]) ∧ Ov A n w w' := by
  by_cases h0 : 0 < n
  · obtain ⟨g, o, cur, rfl, hb, hl⟩ := h h0
    refine (over g o n c cur w hb hl hn).mono fun e w' h => ⟨h.1, h.2.1.mono fun k _ e => ⟨h0, _, rfl, e.symm⟩, fun g' o' cur' _ e hb' => ?_⟩
    injection e with e
    injection e with e1 e2
    subst e1 e2
    have : cur = cur' := by
      have := Option.some.inj ((show w.heap[g]? = _ from hb).symm.trans hb')
      injection this
    subst this
    exact h.2.2
  · obtain rfl : n = 0 := by omega
    refine (over_none A c w).mono fun e w' h => ⟨h.1, by rw [h.2]; exact Kep.refl _ _, fun g o cur h0 => absurd h0 (by omega)⟩
theorem Lay.bel {w w' : World} {A : Option Addr} {n : Nat} (h : Lay w A n) (hb : Bel w w') : Lay w' A n := fun h0 => by
  obtain ⟨g, o, cur, e, h1, h2⟩ := h h0
  exact ⟨g, o, cur, e, h1.bel hb, h2⟩
theorem Lay.kep {w w' : World} {A : Option Addr} {n : Nat} {S : Nat → Prop} (h : Lay w A n) (hb : Kep S w w') (hs : ∀ x, A = some x → ¬ S x.block) : Lay w' A n := fun h0 => by
  obtain ⟨g, o, cur, e, h1, h2⟩ := h h0
  exact ⟨g, o, cur, e, h1.kep hb (hs _ e), h2⟩
theorem lay_own {w : World} {base : Nat} {A : Option Addr} {n c : Nat} {l : List V6} (h : OwnV w base (.slice A n c) l) : Lay w A n := fun h0 => by
  rcases h.2 with ⟨e, _⟩ | ⟨g, cap, cur, e, _, hg, hl, _, hcs, _⟩
  · injection e with e1 e2 e3
    omega
  · injection e with e1 e2 e3
    subst e2
    exact ⟨g, 0, cur, e1, hg, by rw [Nat.zero_add, hcs]; exact Nat.mul_le_mul_right _ hl⟩
end Ro
end Go.Proofs.Ytpfdakkameifkaa
end

section
/-
  Lists of bools: in memory, grown, and what SameBools tells of two. Conditions: at most a billion bools.
-/
namespace Go.Proofs.Ytpfdakkameifkaa
open Go.RowKit Go.Shelf
set_option linter.unusedVariables false
set_option linter.unusedSimpArgs false
namespace Ro
open Kk Pm

def bR : Rw.Row Bool where
  k := fun b => [.bool b]
  z := 1
  len := fun _ => rfl
  one := fun r u hu => by
    rw [List.mem_singleton] at hu
    subst hu; rfl
  pos := by decide
abbrev OwnB (w : World) (base : Nat) (v : Value) (l : List Bool) : Prop := Rw.OwnR bR 4 w base v l
theorem zero_b : (Try.prog.info? 4).map (fun i => (i.zero, i.size, i.bytes)) = some (some (.bool false), 1, 1) := by kernel_rfl
theorem underB : Try.prog.underlying 36 = some (.slice 4) := by kernel_rfl
theorem flat_b : ∀ l : List Bool, Rw.flat bR l = l.map Value.bool
  | [] => rfl
  | b :: l => by
    show [Value.bool b] ++ Rw.flat bR l = _
    rw [flat_b l]; rfl
theorem bool_at {w : World} {A : Option Addr} {n c : Nat} {l : List Bool} (h : Rw.RS bR w A n c l) {i : Nat} (hi : i < n) : ∃ b o x, A = some ⟨b, o, none⟩ ∧ b < w.heap.size ∧ l[i]? = some x ∧ w.cell? ⟨b, o + i, none⟩ = some (.bool x) := by
  obtain ⟨x, hx⟩ := h.get hi
  obtain ⟨b, o, e, hb, hr⟩ := h.at hi hx
  have := hr 0 (.bool x) rfl
  exact ⟨b, o, x, e, hb, hx, by simpa [bR] using this⟩
theorem info_parts1 {P : Program} {t : TypeId} {z : Value} {s b : Nat} (h : (P.info? t).map (fun i => (i.zero, i.size, i.bytes)) = some (some z, s, b)) : ∃ i, P.info? t = some i ∧ i.zero = some z ∧ i.size = s ∧ i.bytes = b := by
  cases hi : P.info? t with
  | none => rw [hi] at h; cases h
  | some i =>
    rw [hi] at h
    simp at h
    exact ⟨i, rfl, h.1, h.2.1, h.2.2⟩
theorem append_b {w : World} {ops : Array Oper} {rest : List Oper} {o : Oper} {a : Act} {Q : Exit → Act → World → Prop} (hgd : o.guard = none) (s x : Operand)
    (ho : o.op = .call { callee := .builtin .append, args := #[s, x], argTypes := #[36, 36] })
    (base : Nat) (v : Value) (l : List Bool) (hs : a.eval s = v) (hown : OwnB w base v l) (ad : Addr) (z : Bool) (hx : a.eval x = .slice (some ad) 1 1) (hc : w.cell? ad = some (.bool z))
    (hk : l.length ≤ 1000000000) (hb : base ≤ w.heap.size)
    (h : ∀ v' w', OwnB w' base v' (l ++ [z]) → w.grownBy w' v.ownBlock → wpList Try.prog ops Q rest (a.put o.dst v') w') : wpList Try.prog ops Q (o :: rest) a w := by
  obtain ⟨i0, h1, hz0, hz1, hz2⟩ := info_parts1 zero_b
  refine wpList_append_own_at w hgd s x 36 ho base 4 i0 (.bool false) 1 1 underB h1 hz0 hz1 hz2 rfl (by decide) v l.length (Rw.flat bR l) hs hown ad 1 1 [.bool z] hx rfl ?_ ?_ (by unfold maxLen; omega) (by omega) hb ?_
  · intro j u hu
    match j, hu with
    | 0, hu =>
      simp at hu
      subst hu
      simpa [Addr.add] using hc
  · intro u hu
    simp at hu
    subst hu
    rfl
  · intro v' w' h2 h3 _ _
    refine h v' w' ?_ h3
    show w'.ownsRow base 4 1 v' (l ++ [z]).length (Rw.flat bR (l ++ [z]))
    rw [Rw.flat_app, List.length_append]
    exact h2

set_option maxRecDepth 100000 in
set_option maxHeartbeats 4000000 in
theorem same_bools (A B : Option Addr) (n c m d : Nat) (l1 l2 : List Bool) (w : World) (ha : Rw.RS bR w A n c l1) (hb : Rw.RS bR w B m d l2) (hn : n ≤ 1000000000) (hm : m ≤ 1000000000) :
    Calls Try.prog 19 #[.slice A n c, .slice B m d] w fun e w' => e = .returned (.bool (decide (l1 = l2))) ∧ Bel w w' := by
  have HA := Lib.hid ha
  have HB := Lib.hid hb
  have HLA := Lib.hid ha.len
  have HLB := Lib.hid hb.len
  clear ha hb
  by_cases hnm : n = m
  · subst hnm
    have hbb : ((n : Int) == n) = true := by simp
    go_enter Try.func19, Try.ntmps19
    go_wp2_with fail
    go_loopw [5, 6] (fun s i wr => ∃ k : Nat, k ≤ n ∧ i = .int .i64 k ∧ Bel w wr ∧ ∃ b : Bool, s = .bool b ∧ (b = true → l1.take k = l2.take k) ∧ (b = false → l1 ≠ l2)) (fun _ i _ => n - (intOf i).toNat)
    case atStart => exact ⟨0, Nat.zero_le _, rfl, Bel.refl _, true, rfl, fun _ => rfl, fun h => by cases h⟩
    case round =>
      obtain ⟨k, hk, rfl, hbel, b, rfl, ht, hf⟩ := hrel
      cases b with
      | false =>
        have HD := Lib.hid (show decide (l1 = l2) = false from decide_eq_false (hf rfl))
        have HBE := Lib.hid hbel
        clear ht hf hbel
        go_wp2
        go_ret
        exact ⟨by rw [HD.out]; rfl, HBE.out⟩
      | true =>
        have HT := Lib.hid (ht rfl)
        clear ht hf
        by_cases hlt : k < n
        · obtain ⟨g1, o1, x, rfl, _, hr1, c1⟩ := bool_at (HA.out.bel hbel) hlt
          obtain ⟨g2, o2, y, rfl, _, hr2, c2⟩ := bool_at (HB.out.bel hbel) hlt
          have HC1 := Lib.hid c1
          have HC2 := Lib.hid c2
          have HBE := Lib.hid hbel
          have HNX := Lib.hid (show ∀ z : Bool, (x == y) = z → (z = true → l1.take (k + 1) = l2.take (k + 1)) ∧ (z = false → l1 ≠ l2) from fun z hz => by
            refine ⟨fun h => ?_, fun h e => ?_⟩
            · rw [List.take_add_one, List.take_add_one, hr1, hr2, HT.out, beq_iff_eq.1 (hz.trans h)]
            · subst e
              have e := Option.some.inj (hr1.symm.trans hr2)
              rw [e, beq_self_eq_true] at hz
              rw [← hz] at h
              cases h)
          have hlt3 : (k : Int) < n := by omega
          have hlt0 : (0 : Int) ≤ k := by omega
          clear hr1 hr2 c1 c2 hbel
          go_upto_region 5 with fail
          refine wp_region_held_drew (S := fun Vx => Bel wr Vx) (by kernel_rfl) (Bel.refl _).drew (fun hS0 => ?_)
          obtain ⟨w6, hw6⟩ : ∃ w6, World.drew wr = w6 := ⟨_, rfl⟩
          rw [hw6] at hS0 ⊢
          clear hw6
          refine wpAnyH_take (i := 0) (oi := { dst := some 21, op := .move (.tmp 0), type := 36, pos := "validators.go:26", after := #[], guard := none }) (v := .slice (some ⟨g1, o1, none⟩) n c) rfl (by kernel_rfl) (by kernel_rfl) (by kernel_rfl) (fun _ _ _ h => h) (Or.inl ⟨by rfl, by intro w hSw; clear hSw; go_simp⟩) hS0 ?_
          try simp only [Act.put, List.setIfInBounds_toArray, List.set_cons_zero, List.set_cons_succ]
          refine wpAnyH_take (i := 1) (oi := { dst := some 22, op := .move (.tmp 6), type := 3, pos := "validators.go:26", after := #[], guard := none }) (v := .int .i64 k) rfl (by kernel_rfl) (by kernel_rfl) (by kernel_rfl) (fun _ _ _ h => h) (Or.inl ⟨by rfl, by intro w hSw; clear hSw; go_simp⟩) hS0 ?_
          try simp only [Act.put, List.setIfInBounds_toArray, List.set_cons_zero, List.set_cons_succ]
          refine wpAnyH_take (i := 2) (oi := { dst := some 23, op := .indexAddr 36 (.tmp 21) (.tmp 22), type := 0, pos := "validators.go:26", after := #[{ on := 0, ground := .data }, { on := 1, ground := .data }], guard := none }) (v := .pointer (some ⟨g1, o1 + k, none⟩)) rfl (by kernel_rfl) (by kernel_rfl) (by kernel_rfl) (fun _ _ _ h => h) (Or.inl ⟨by rfl, by intro w hSw; clear hSw; go_simp⟩) hS0 ?_
          try simp only [Act.put, List.setIfInBounds_toArray, List.set_cons_zero, List.set_cons_succ]
          refine wpAnyH_take (i := 3) (oi := { dst := some 24, op := .load 4 (.tmp 23), type := 4, pos := "validators.go:26", after := #[{ on := 2, ground := .data }], guard := none }) (v := .bool x) rfl (by kernel_rfl) (by kernel_rfl) (by kernel_rfl) (fun _ _ _ h => h) (Or.inl ⟨by rfl, by intro w h; have hcell := (cell_bel HC1.out h); clear h; go_simp⟩) hS0 ?_
          try simp only [Act.put, List.setIfInBounds_toArray, List.set_cons_zero, List.set_cons_succ]
          refine wpAnyH_take (i := 4) (oi := { dst := some 25, op := .move (.tmp 1), type := 36, pos := "validators.go:26", after := #[], guard := none }) (v := .slice (some ⟨g2, o2, none⟩) n d) rfl (by kernel_rfl) (by kernel_rfl) (by kernel_rfl) (fun _ _ _ h => h) (Or.inl ⟨by rfl, by intro w hSw; clear hSw; go_simp⟩) hS0 ?_
          try simp only [Act.put, List.setIfInBounds_toArray, List.set_cons_zero, List.set_cons_succ]
          refine wpAnyH_take (i := 5) (oi := { dst := some 26, op := .move (.tmp 6), type := 3, pos := "validators.go:26", after := #[], guard := none }) (v := .int .i64 k) rfl (by kernel_rfl) (by kernel_rfl) (by kernel_rfl) (fun _ _ _ h => h) (Or.inl ⟨by rfl, by intro w hSw; clear hSw; go_simp⟩) hS0 ?_
          try simp only [Act.put, List.setIfInBounds_toArray, List.set_cons_zero, List.set_cons_succ]
          refine wpAnyH_take (i := 6) (oi := { dst := some 27, op := .indexAddr 36 (.tmp 25) (.tmp 26), type := 0, pos := "validators.go:26", after := #[{ on := 4, ground := .data }, { on := 5, ground := .data }], guard := none }) (v := .pointer (some ⟨g2, o2 + k, none⟩)) rfl (by kernel_rfl) (by kernel_rfl) (by kernel_rfl) (fun _ _ _ h => h) (Or.inl ⟨by rfl, by intro w hSw; clear hSw; go_simp⟩) hS0 ?_
          try simp only [Act.put, List.setIfInBounds_toArray, List.set_cons_zero, List.set_cons_succ]
          refine wpAnyH_take (i := 7) (oi := { dst := some 28, op := .load 4 (.tmp 27), type := 4, pos := "validators.go:26", after := #[{ on := 6, ground := .data }], guard := none }) (v := .bool y) rfl (by kernel_rfl) (by kernel_rfl) (by kernel_rfl) (fun _ _ _ h => h) (Or.inl ⟨by rfl, by intro w h; have hcell := (cell_bel HC2.out h); clear h; go_simp⟩) hS0 ?_
          try simp only [Act.put, List.setIfInBounds_toArray, List.set_cons_zero, List.set_cons_succ]
          refine wpAnyH_take (i := 8) (oi := { dst := some 29, op := .binOp .eql 4 (.tmp 24) (.tmp 28) 4, type := 4, pos := "validators.go:26", after := #[{ on := 3, ground := .data }, { on := 7, ground := .data }], guard := none }) (v := .bool (x == y)) rfl (by kernel_rfl) (by kernel_rfl) (by kernel_rfl) (fun _ _ _ h => h) (Or.inl ⟨by rfl, by intro w hSw; clear hSw; go_simp⟩) hS0 ?_
          try simp only [Act.put, List.setIfInBounds_toArray, List.set_cons_zero, List.set_cons_succ]
          refine wpAnyH_take (i := 9) (oi := { dst := some 5, op := .assign (.tmp 29), type := 4, pos := "validators.go:26", after := #[{ on := 8, ground := .data }, { on := 0, ground := .phase }, { on := 1, ground := .phase }, { on := 2, ground := .phase }, { on := 3, ground := .phase }, { on := 4, ground := .phase }, { on := 5, ground := .phase }, { on := 6, ground := .phase }, { on := 7, ground := .phase }, { on := 8, ground := .phase }], guard := none }) (v := .bool (x == y)) rfl (by kernel_rfl) (by kernel_rfl) (by kernel_rfl) (fun _ _ _ h => h) (Or.inl ⟨by rfl, by intro w hSw; clear hSw; go_simp⟩) hS0 ?_
          try simp only [Act.put, List.setIfInBounds_toArray, List.set_cons_zero, List.set_cons_succ]
          refine wpAnyH_done (by kernel_rfl) ?_ _
          have HE := Lib.hid (HBE.out.trans hS0)
          clear HC1 HC2 HBE
          go_wp2_with fail
          go_roundw
          case rel => exact ⟨k + 1, by omega, by go_num, HE.out, _, rfl, (HNX.out _ rfl).1, (HNX.out _ rfl).2⟩
          case measure => simp [intOf]; omega
        · obtain rfl : k = n := by omega
          have HD := Lib.hid (show decide (l1 = l2) = true from decide_eq_true (by
            have h := HT.out
            rwa [List.take_of_length_le (by rw [HLA.out]; exact Nat.le_refl _), List.take_of_length_le (by rw [HLB.out]; exact Nat.le_refl _)] at h))
          have HBE := Lib.hid hbel
          clear hbel
          go_wp2
          go_ret
          exact ⟨by rw [HD.out]; rfl, HBE.out⟩
  · have HD := Lib.hid (show decide (l1 = l2) = false from decide_eq_false (fun e => hnm (by
      have := congrArg List.length e
      rw [HLA.out, HLB.out] at this
      exact this)))
    have hbb : ((n : Int) == m) = false := by simp; omega
    clear hnm
    go_enter Try.func19, Try.ntmps19
    go_wp2_with fail
    go_loop [5] (fun s => s = .bool false) (fun _ => 0)
    case atStart => rfl
    case round =>
      subst hrel
      go_wp2
      go_ret
      exact ⟨by rw [HD.out]; rfl, Bel.refl _⟩
end Ro
end Go.Proofs.Ytpfdakkameifkaa
end
