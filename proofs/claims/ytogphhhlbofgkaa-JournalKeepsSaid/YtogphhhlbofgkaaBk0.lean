/-
  Banks as the walks have them: words in a slice and four pools; sums, what a bank's check tells; copies of words. No condition.
-/
import Derived.Test.YtogphhhlbofgkaaPMem
import Derived.Test.YtogphhhlbofgkaaFx
import Derived.Lib.SliceRun
import Derived.WalkSpells
namespace Go.Proofs.Ytogphhhlbofgkaa
open Go.RowKit Go.Shelf
set_option linter.unusedVariables false
namespace Bk
open Pm

theorem info_w : (Try.prog.info? 31).map (fun i => (i.zero, i.size, i.bytes)) = some (some (.int .u64 0), 1, 8) := by kernel_rfl
/-- The sum of words. -/
theorem sumTo_sum (zs : List Int) : ∀ k, k ≤ zs.length → sumTo zs k = (zs.take k).sum := by
  intro k
  induction k with
  | zero => intro _; rfl
  | succ k ih =>
    intro h
    show sumTo zs k + zs.getD k 0 = _
    rw [ih (by omega), List.take_add_one, List.sum_append, Kk.getD_eq zs k (by omega), List.getElem?_eq_getElem (by omega)]
    simp
theorem sum_all (zs : List Int) {n : Nat} (h : zs.length = n) : sumTo zs n = zs.sum := by
  rw [sumTo_sum zs n (by omega), List.take_of_length_le (by omega)]
theorem Words.mem {zs : List Int} (h : Words zs) : ∀ z ∈ zs, 0 ≤ z ∧ z ≤ 18446744073709551615 := by
  intro z hz
  obtain ⟨i, hi, rfl⟩ := List.getElem_of_mem hz
  have := h i
  rwa [Kk.getD_eq zs i hi] at this
theorem sum0 {zs : List Int} (h : Words zs) : 0 ≤ zs.sum := by rw [← sum_all zs rfl]; exact sumTo0 h _
theorem words_app {a b : List Int} (ha : Words a) (hb : Words b) : Words (a ++ b) :=
  words_of fun z hz => by
    rcases List.mem_append.1 hz with h | h
    · exact Words.mem ha z h
    · exact Words.mem hb z h
theorem words_set {a : List Int} (ha : Words a) {i : Nat} {v : Int} (h0 : 0 ≤ v) (h1 : v ≤ 18446744073709551615) : Words (a.set i v) :=
  words_of fun z hz => by
    rcases List.mem_or_eq_of_mem_set hz with h | h
    · exact Words.mem ha z h
    · exact h ▸ ⟨h0, h1⟩
theorem sum_set (a : List Int) : ∀ (i : Nat) (v : Int), i < a.length → (a.set i v).sum = a.sum - a.getD i 0 + v := by
  induction a with
  | nil => intro i v h; exact absurd h (by simp)
  | cons x r ih =>
    intro i v h
    cases i with
    | zero => simp; omega
    | succ i =>
      have := ih i v (by simpa using h)
      simp only [List.set_cons_succ, List.sum_cons, List.getD_cons_succ]
      omega
theorem get_le_sum {a : List Int} (h : Words a) (i : Nat) : a.getD i 0 ≤ a.sum := by
  rcases Nat.lt_or_ge i a.length with hi | hi
  · have := sum_set a i 0 hi
    have := sum0 (words_set h (i := i) (v := 0) (by decide) (by decide))
    omega
  · rw [List.getD_eq_getElem?_getD, List.getElem?_eq_none hi]; exact sum0 h

/-- A slice of words: nil has no room. -/
structure SU (w : World) (A : Option Addr) (n c : Nat) (zs : List Int) : Prop where
  ints : Kk.Ints .u64 w A n zs
  cap : n ≤ c
  nil : A = none → c = 0
theorem SU.bel {w w' : World} {A : Option Addr} {n c : Nat} {zs : List Int} (h : SU w A n c zs) (hb : Kk.Bel w w') : SU w' A n c zs := ⟨h.ints.bel hb, h.cap, h.nil⟩
theorem SU.len {w : World} {A : Option Addr} {n c : Nat} {zs : List Int} (h : SU w A n c zs) : zs.length = n := h.ints.1
theorem SU.kep {S : Nat → Prop} {w w' : World} {A : Option Addr} {n c : Nat} {zs : List Int} (h : SU w A n c zs) (k : Kk.Kep S w w') (hs : ∀ x, A = some x → ¬ S x.block) : SU w' A n c zs := ⟨k.ints hs h.ints, h.cap, h.nil⟩
theorem su_of_own {w : World} {base : Nat} {e : TypeId} {v : Value} {n : Nat} {zs : List Int} (h : w.ownsRow base e 1 v n (zs.map (Value.int .u64))) : ∃ A c, v = .slice A n c ∧ SU w A n c zs := by
  obtain ⟨A, c, e, hi, hc, _⟩ := Kk.ints_of_own h
  refine ⟨A, c, e, hi, hc, ?_⟩
  rintro rfl
  rcases h.2 with ⟨h1, _⟩ | ⟨g, cap, cur, h1, _⟩
  · rw [h1] at e; injection e with _ _ e; exact e.symm
  · rw [h1] at e; injection e with e; cases e
theorem su_lit (w : World) (zs : List Int) : SU (w.alloc (.cells (zs.map (Value.int .u64)).toArray 31)) (some ⟨w.heap.size, 0, none⟩) zs.length zs.length zs := by
  refine ⟨⟨rfl, fun hn => ⟨w.heap.size, 0, rfl, by simp, fun i hi => ?_⟩⟩, Nat.le_refl _, fun h => by cases h⟩
  rw [Nat.zero_add, World.cell?_alloc_new, List.getElem?_toArray, List.getElem?_map, List.getElem?_eq_getElem hi, Kk.getD_eq _ _ hi]
  rfl

theorem wpList_append_u {w : World} {ops : Array Oper} {rest : List Oper} {o : Oper} {a : Act} {Q : Exit → Act → World → Prop} (hgd : o.guard = none) (s x : Operand)
    (ho : o.op = .call { callee := .builtin .append, args := #[s, x], argTypes := #[45, 45] })
    (base : Nat) (v : Value) (k : Nat) (xs : List Value) (hs : a.eval s = v) (hown : w.ownsRow base 31 1 v k xs) (A : Option Addr) (m c : Nat) (zs : List Int) (hx : a.eval x = .slice A m c) (hi : SU w A m c zs)
    (hm : k + m ≤ 1000000000000) (hb : base ≤ w.heap.size)
    (h : ∀ v' w', w'.ownsRow base 31 1 v' (k + m) (xs ++ zs.map (Value.int .u64)) → w.grownBy w' v.ownBlock → wpList Try.prog ops Q rest (a.put o.dst v') w') : wpList Try.prog ops Q (o :: rest) a w := by
  obtain ⟨i0, h1, hz0, hz1, hz2⟩ := info_parts info_w
  cases A with
  | none =>
    obtain rfl : c = 0 := hi.nil rfl
    obtain rfl : m = 0 := by have := hi.cap; omega
    have hz : zs = [] := List.length_eq_zero_iff.1 hi.ints.1
    subst hz
    refine wpList_append_own_none hgd s x 45 ho base 31 i0 1 Try.underlying45 h1 v k xs hs hown hx ?_
    exact h v w (by simpa using hown) ⟨rfl, rfl, rfl, Nat.le_refl _, fun _ _ _ => rfl⟩
  | some ad =>
    refine wpList_append_own w hgd s x 45 ho base 31 i0 (.int .u64 0) 1 8 Try.underlying45 h1 hz0 hz1 hz2 rfl (by decide) v k xs hs hown ad m c (zs.map (Value.int .u64)) hx (by have := hi.ints.1; simp; omega) (Kk.Ints.news hi.ints) (Kk.ints_ok zs) (by unfold maxLen; omega) (by omega) hb ?_
    intro v' w' h2 h3 _
    exact h v' w' h2 h3
theorem own_empty (w : World) : (w.alloc (.cells #[] 31)).ownsRow w.heap.size 31 1 (.slice (some ⟨w.heap.size, 0, none⟩) 0 0) 0 [] :=
  World.ownsRow_lit w #[] 0 (Nat.le_refl _) (Nat.zero_le _) rfl

/-- New words. -/
def Fresh (w w' : World) (v : Value) (zs : List Int) : Prop := w'.ownsRow w.heap.size 31 1 v zs.length (zs.map (Value.int .u64)) ∧ Kk.Bel w w'
theorem Fresh.su {w w' : World} {v : Value} {zs : List Int} (h : Fresh w w' v zs) : ∃ A c, v = .slice A zs.length c ∧ SU w' A zs.length c zs := su_of_own h.1
theorem fresh_nil {w w' : World} (h : Kk.Bel w w') : Fresh w w' (.slice none 0 0) [] := ⟨⟨rfl, .inl ⟨rfl, rfl⟩⟩, h⟩
theorem Fresh.after {a w w' : World} {v : Value} {zs : List Int} (hb : Kk.Bel a w) (h : Fresh w w' v zs) : Fresh a w' v zs := ⟨Kk.owns_mono h.1 (Below.size hb), hb.trans h.2⟩
theorem Fresh.then_ {a w w' : World} {v : Value} {zs : List Int} (h : Fresh a w v zs) (hb : Kk.Bel w w') : Fresh a w' v zs := ⟨Kk.owns_bel h.1 hb, h.2.trans hb⟩

/-- slices.Clone -/
theorem cloneWords (A : Option Addr) (n c : Nat) (zs : List Int) (w : World) (hi : SU w A n c zs) (hn : n ≤ 1000000000) :
    Calls Try.prog 41 #[.slice A n c] w fun e w' => ∃ v, e = .returned v ∧ Fresh w w' v zs := by
  have qT : ∀ (w : World) (a : Option Addr) (n c n' c' : Nat), (binOp .eql 45 (.slice a n c) (.slice none n' c')).run Try.prog w = .ok (.bool a.isNone) w := fun w a n c n' c' => Lib.run_eql_slice_nil w _ _ a n c n' c' Try.underlying45
  cases A with
  | none =>
    obtain rfl : c = 0 := hi.nil rfl
    obtain rfl : n = 0 := by have := hi.cap; omega
    have hz : zs = [] := List.length_eq_zero_iff.1 hi.ints.1
    subst hz
    clear hi
    go_enter Try.func41, Try.ntmps41
    go_wp2
    go_ret
    exact ⟨_, rfl, fresh_nil (Kk.Bel.refl _)⟩
  | some ad =>
    have HS := Lib.hid (hi.bel ((Kk.Bel.refl w).alloc (.cells #[] 31)))
    have HE := Lib.hid (own_empty w)
    have HL := Lib.hid hi.len
    clear hi
    go_enter Try.func41, Try.ntmps41
    go_wp2_with (at_builtin; refine wpList_append_u rfl _ _ rfl w.heap.size _ 0 [] rfl HE.out (some ad) n c zs rfl HS.out (by omega) (by simp) ?_; intro v' w1 hown' hgrow)
    have HO := Lib.hid hown'
    have hb : Kk.Bel w w1 := Kk.Bel.grown ((Kk.Bel.refl w).alloc _) hgrow (fun k hk => (HE.out.lt k hk).1)
    clear hown' hgrow
    go_wp2
    go_ret
    refine ⟨_, rfl, ?_, hb⟩
    have h := HO.out
    rw [Nat.zero_add, List.nil_append, ← HL.out] at h
    exact h

/-- The four pools. -/
def Four (ps : List Int) : Prop := ∃ a b c d, ps = [a, b, c, d]
/-- A bank's cells. -/
def bkC (v : Value) (ps : List Int) : List Value := v :: ps.map (Value.int .u64)
/-- What is wrong with a bank of these amounts. -/
def chk (zs ps : List Int) : Int := if zs.length = 0 then 3 else if 64 < zs.length then 4 else if 4611686018427387904 < zs.sum + ps.sum then 12 else 0
theorem chk_ok {zs ps : List Int} (h : chk zs ps = 0) : 0 < zs.length ∧ zs.length ≤ 64 ∧ zs.sum + ps.sum ≤ 4611686018427387904 := by
  unfold chk at h
  split at h
  · cases h
  · split at h
    · cases h
    · split at h
      · cases h
      · omega
theorem chk_of {zs ps : List Int} (h0 : 0 < zs.length) (h1 : zs.length ≤ 64) (h2 : zs.sum + ps.sum ≤ 4611686018427387904) : chk zs ps = 0 := by
  unfold chk
  rw [if_neg (by omega), if_neg (by omega), if_neg (by omega)]
theorem Four.length {ps : List Int} (h : Four ps) : ps.length = 4 := by obtain ⟨_, _, _, _, rfl⟩ := h; rfl
theorem bkC_len {v : Value} {ps : List Int} (h : ps.length = 4) : (bkC v ps).length = 5 := by simp [bkC, h]
theorem bkC_one {A : Option Addr} {n c : Nat} {ps : List Int} : ∀ u ∈ bkC (.slice A n c) ps, u.oneCell' = true := by
  intro u hu
  rcases List.mem_cons.1 hu with rfl | hu
  · rfl
  · exact Kk.ints_ok ps u hu
/-- The pools in a bank's block. -/
theorem pools_su {w : World} {b : Nat} {v : Value} {ps : List Int} (h : w.rangeAt b 0 (bkC v ps)) (hl : ps.length = 4) : SU w (some ⟨b, 1, none⟩) 4 4 ps := by
  have hlt : b < w.heap.size := World.block_lt_of_cell? w _ (h 0 v rfl)
  refine ⟨⟨hl, fun _ => ⟨b, 1, rfl, hlt, fun i hi => ?_⟩⟩, Nat.le_refl _, fun h => by cases h⟩
  have := h (1 + i) (.int .u64 (ps.getD i 0)) (by
    rw [Nat.add_comm, show bkC v ps = v :: ps.map (Value.int .u64) from rfl, List.getElem?_cons_succ, List.getElem?_map, List.getElem?_eq_getElem (by omega), Kk.getD_eq _ _ (by omega)]; rfl)
  rwa [Nat.zero_add] at this
theorem bk_slice {w : World} {b : Nat} {v : Value} {ps : List Int} (h : w.rangeAt b 0 (bkC v ps)) : w.cell? ⟨b, 0, none⟩ = some v := h 0 v rfl
end Bk
end Go.Proofs.Ytogphhhlbofgkaa
