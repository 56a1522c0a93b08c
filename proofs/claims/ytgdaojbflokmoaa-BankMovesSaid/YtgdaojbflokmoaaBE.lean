/-
  Texts of this claim, put together: Bk0, Bk1, Bk2, Bk3, Bk4, Bk5. What each one says, and under which conditions, stands ahead of it.
-/
import Derived.Lib.SliceRun
import Derived.WalkSpells
import Derived.Defers
import Derived.LaidEqlPtr
import Derived.Test.YtgdaojbflokmoaaBD

section
/-
  Banks as the walks have them: words in a slice and four pools; sums, what a bank's check tells; copies of words. No condition.
-/
namespace Go.Proofs.Ytgdaojbflokmoaa
open Go.RowKit Go.Shelf
set_option linter.unusedVariables false
namespace Bk
open Pm

theorem info_w : (Try.prog.info? 23).map (fun i => (i.zero, i.size, i.bytes)) = some (some (.int .u64 0), 1, 8) := by kernel_rfl
theorem info_bank : (Try.prog.info? 26).map (·.size) = some 5 := by kernel_rfl
theorem info_pools : (Try.prog.info? 24).map (·.size) = some 4 := by kernel_rfl

/-- The sum of words. -/
theorem sumTo_sum (zs : List Int) : ∀ k, k ≤ zs.length → sumTo zs k = (zs.take k).sum := by
  intro k
  induction k with
  | zero => intro _; rfl
  | succ k ih =>
    intro h
    show sumTo zs k + zs.getD k 0 = _
    rw [ih (by omega), List.take_add_one, List.sum_append, Kk.getD_eq zs k (by omega), List.getElem?_eq_getElem (by omega)]
    simp
theorem sum_all (zs : List Int) {n : Nat} (h : zs.length = n) : sumTo zs n = zs.sum := by
  rw [sumTo_sum zs n (by omega), List.take_of_length_le (by omega)]
theorem Words.mem {zs : List Int} (h : Words zs) : ∀ z ∈ zs, 0 ≤ z ∧ z ≤ 18446744073709551615 := by
  intro z hz
  obtain ⟨i, hi, rfl⟩ := List.getElem_of_mem hz
  have := h i
  rwa [Kk.getD_eq zs i hi] at this
theorem sum0 {zs : List Int} (h : Words zs) : 0 ≤ zs.sum := by rw [← sum_all zs rfl]; exact sumTo0 h _
theorem words_app {a b : List Int} (ha : Words a) (hb : Words b) : Words (a ++ b) :=
  words_of fun z hz => by
    rcases List.mem_append.1 hz with h | h
    · exact Words.mem ha z h
    · exact Words.mem hb z h
theorem words_set {a : List Int} (ha : Words a) {i : Nat} {v : Int} (h0 : 0 ≤ v) (h1 : v ≤ 18446744073709551615) : Words (a.set i v) :=
  words_of fun z hz => by
    rcases List.mem_or_eq_of_mem_set hz with h | h
    · exact Words.mem ha z h
    · exact h ▸ ⟨h0, h1⟩
theorem sum_set (a : List Int) : ∀ (i : Nat) (v : Int), i < a.length → (a.set i v).sum = a.sum - a.getD i 0 + v := by
  induction a with
  | nil => intro i v h; exact absurd h (by simp)
  | cons x r ih =>
    intro i v h
    cases i with
    | zero => simp; omega
    | succ i =>
      have := ih i v (by simpa using h)
      simp only [List.set_cons_succ, List.sum_cons, List.getD_cons_succ]
      omega
theorem get_le_sum {a : List Int} (h : Words a) (i : Nat) : a.getD i 0 ≤ a.sum := by
  rcases Nat.lt_or_ge i a.length with hi | hi
  · have := sum_set a i 0 hi
    have := sum0 (words_set h (i := i) (v := 0) (by decide) (by decide))
    omega
  · rw [List.getD_eq_getElem?_getD, List.getElem?_eq_none hi]; exact sum0 h

/-- A slice of words: nil has no room. -/
structure SU (w : World) (A : Option Addr) (n c : Nat) (zs : List Int) : Prop where
  ints : Kk.Ints .u64 w A n zs
  cap : n ≤ c
  nil : A = none → c = 0
theorem SU.bel {w w' : World} {A : Option Addr} {n c : Nat} {zs : List Int} (h : SU w A n c zs) (hb : Kk.Bel w w') : SU w' A n c zs := ⟨h.ints.bel hb, h.cap, h.nil⟩
theorem SU.len {w : World} {A : Option Addr} {n c : Nat} {zs : List Int} (h : SU w A n c zs) : zs.length = n := h.ints.1
theorem SU.kep {S : Nat → Prop} {w w' : World} {A : Option Addr} {n c : Nat} {zs : List Int} (h : SU w A n c zs) (k : Kk.Kep S w w') (hs : ∀ x, A = some x → ¬ S x.block) : SU w' A n c zs := ⟨k.ints hs h.ints, h.cap, h.nil⟩
theorem su_of_own {w : World} {base : Nat} {e : TypeId} {v : Value} {n : Nat} {zs : List Int} (h : w.ownsRow base e 1 v n (zs.map (Value.int .u64))) : ∃ A c, v = .slice A n c ∧ SU w A n c zs := by
  obtain ⟨A, c, e, hi, hc, _⟩ := Kk.ints_of_own h
  refine ⟨A, c, e, hi, hc, ?_⟩
  rintro rfl
  rcases h.2 with ⟨h1, _⟩ | ⟨g, cap, cur, h1, _⟩
  · rw [h1] at e; injection e with _ _ e; exact e.symm
  · rw [h1] at e; injection e with e; cases e
theorem su_lit (w : World) (zs : List Int) : SU (w.alloc (.cells (zs.map (Value.int .u64)).toArray 23)) (some ⟨w.heap.size, 0, none⟩) zs.length zs.length zs := by
  refine ⟨⟨rfl, fun hn => ⟨w.heap.size, 0, rfl, by simp, fun i hi => ?_⟩⟩, Nat.le_refl _, fun h => by cases h⟩
  rw [Nat.zero_add, World.cell?_alloc_new, List.getElem?_toArray, List.getElem?_map, List.getElem?_eq_getElem hi, Kk.getD_eq _ _ hi]
  rfl

theorem wpList_append_u {w : World} {ops : Array Oper} {rest : List Oper} {o : Oper} {a : Act} {Q : Exit → Act → World → Prop} (hgd : o.guard = none) (s x : Operand)
    (ho : o.op = .call { callee := .builtin .append, args := #[s, x], argTypes := #[22, 22] })
    (base : Nat) (v : Value) (k : Nat) (xs : List Value) (hs : a.eval s = v) (hown : w.ownsRow base 23 1 v k xs) (A : Option Addr) (m c : Nat) (zs : List Int) (hx : a.eval x = .slice A m c) (hi : SU w A m c zs)
    (hm : k + m ≤ 1000000000000) (hb : base ≤ w.heap.size)
    (h : ∀ v' w', w'.ownsRow base 23 1 v' (k + m) (xs ++ zs.map (Value.int .u64)) → w.grownBy w' v.ownBlock → wpList Try.prog ops Q rest (a.put o.dst v') w') : wpList Try.prog ops Q (o :: rest) a w := by
  obtain ⟨i0, h1, hz0, hz1, hz2⟩ := info_parts info_w
  cases A with
  | none =>
    obtain rfl : c = 0 := hi.nil rfl
    obtain rfl : m = 0 := by have := hi.cap; omega
    have hz : zs = [] := List.length_eq_zero_iff.1 hi.ints.1
    subst hz
    refine wpList_append_own_none hgd s x 22 ho base 23 i0 1 Try.underlying22 h1 v k xs hs hown hx ?_
    exact h v w (by simpa using hown) ⟨rfl, rfl, rfl, Nat.le_refl _, fun _ _ _ => rfl⟩
  | some ad =>
    refine wpList_append_own w hgd s x 22 ho base 23 i0 (.int .u64 0) 1 8 Try.underlying22 h1 hz0 hz1 hz2 rfl (by decide) v k xs hs hown ad m c (zs.map (Value.int .u64)) hx (by have := hi.ints.1; simp; omega) (Kk.Ints.news hi.ints) (Kk.ints_ok zs) (by unfold maxLen; omega) (by omega) hb ?_
    intro v' w' h2 h3 _
    exact h v' w' h2 h3
theorem own_empty (w : World) : (w.alloc (.cells #[] 23)).ownsRow w.heap.size 23 1 (.slice (some ⟨w.heap.size, 0, none⟩) 0 0) 0 [] :=
  World.ownsRow_lit w #[] 0 (Nat.le_refl _) (Nat.zero_le _) rfl

/-- New words. -/
def Fresh (w w' : World) (v : Value) (zs : List Int) : Prop := w'.ownsRow w.heap.size 23 1 v zs.length (zs.map (Value.int .u64)) ∧ Kk.Bel w w'
theorem Fresh.su {w w' : World} {v : Value} {zs : List Int} (h : Fresh w w' v zs) : ∃ A c, v = .slice A zs.length c ∧ SU w' A zs.length c zs := su_of_own h.1
theorem fresh_nil {w w' : World} (h : Kk.Bel w w') : Fresh w w' (.slice none 0 0) [] := ⟨⟨rfl, .inl ⟨rfl, rfl⟩⟩, h⟩
theorem Fresh.after {a w w' : World} {v : Value} {zs : List Int} (hb : Kk.Bel a w) (h : Fresh w w' v zs) : Fresh a w' v zs := ⟨Kk.owns_mono h.1 (Below.size hb), hb.trans h.2⟩
theorem Fresh.then_ {a w w' : World} {v : Value} {zs : List Int} (h : Fresh a w v zs) (hb : Kk.Bel w w') : Fresh a w' v zs := ⟨Kk.owns_bel h.1 hb, h.2.trans hb⟩

/-- append([]uint64{}, l...) -/
theorem copyWords (A : Option Addr) (n c : Nat) (zs : List Int) (w : World) (hi : SU w A n c zs) (hn : n ≤ 1000000000) :
    Calls Try.prog 41 #[.slice A n c] w fun e w' => ∃ v, e = .returned v ∧ Fresh w w' v zs := by
  have HS := Lib.hid (hi.bel ((Kk.Bel.refl w).alloc (.cells #[] 23)))
  have HE := Lib.hid (own_empty w)
  have HL := Lib.hid hi.len
  clear hi
  go_enter Try.func41, Try.ntmps41
  go_wp2_with (at_builtin; refine wpList_append_u rfl _ _ rfl w.heap.size _ 0 [] rfl HE.out A n c zs rfl HS.out (by omega) (by simp) ?_; intro v' w1 hown' hgrow)
  have HO := Lib.hid hown'
  have hb : Kk.Bel w w1 := Kk.Bel.grown ((Kk.Bel.refl w).alloc _) hgrow (fun k hk => (HE.out.lt k hk).1)
  clear hown' hgrow
  go_wp2
  go_ret
  refine ⟨_, rfl, ?_, hb⟩
  have h := HO.out
  rw [Nat.zero_add, List.nil_append, ← HL.out] at h
  exact h

/-- slices.Clone -/
theorem cloneWords (A : Option Addr) (n c : Nat) (zs : List Int) (w : World) (hi : SU w A n c zs) (hn : n ≤ 1000000000) :
    Calls Try.prog 66 #[.slice A n c] w fun e w' => ∃ v, e = .returned v ∧ Fresh w w' v zs := by
  have qT : ∀ (w : World) (a : Option Addr) (n c n' c' : Nat), (binOp .eql 22 (.slice a n c) (.slice none n' c')).run Try.prog w = .ok (.bool a.isNone) w := fun w a n c n' c' => Lib.run_eql_slice_nil w _ _ a n c n' c' Try.underlying22
  cases A with
  | none =>
    obtain rfl : c = 0 := hi.nil rfl
    obtain rfl : n = 0 := by have := hi.cap; omega
    have hz : zs = [] := List.length_eq_zero_iff.1 hi.ints.1
    subst hz
    clear hi
    go_enter Try.func66, Try.ntmps66
    go_wp2
    go_ret
    exact ⟨_, rfl, fresh_nil (Kk.Bel.refl _)⟩
  | some ad =>
    have HS := Lib.hid (hi.bel ((Kk.Bel.refl w).alloc (.cells #[] 23)))
    have HE := Lib.hid (own_empty w)
    have HL := Lib.hid hi.len
    clear hi
    go_enter Try.func66, Try.ntmps66
    go_wp2_with (at_builtin; refine wpList_append_u rfl _ _ rfl w.heap.size _ 0 [] rfl HE.out (some ad) n c zs rfl HS.out (by omega) (by simp) ?_; intro v' w1 hown' hgrow)
    have HO := Lib.hid hown'
    have hb : Kk.Bel w w1 := Kk.Bel.grown ((Kk.Bel.refl w).alloc _) hgrow (fun k hk => (HE.out.lt k hk).1)
    clear hown' hgrow
    go_wp2
    go_ret
    refine ⟨_, rfl, ?_, hb⟩
    have h := HO.out
    rw [Nat.zero_add, List.nil_append, ← HL.out] at h
    exact h

/-- The four pools. -/
def Four (ps : List Int) : Prop := ∃ a b c d, ps = [a, b, c, d]
/-- A bank's cells. -/
def bkC (v : Value) (ps : List Int) : List Value := v :: ps.map (Value.int .u64)
/-- What is wrong with a bank of these amounts. -/
def chk (zs ps : List Int) : Int := if zs.length = 0 then 3 else if 64 < zs.length then 4 else if 4611686018427387904 < zs.sum + ps.sum then 12 else 0
theorem chk_ok {zs ps : List Int} (h : chk zs ps = 0) : 0 < zs.length ∧ zs.length ≤ 64 ∧ zs.sum + ps.sum ≤ 4611686018427387904 := by
  unfold chk at h
  split at h
  · cases h
  · split at h
    · cases h
    · split at h
      · cases h
      · omega
theorem chk_of {zs ps : List Int} (h0 : 0 < zs.length) (h1 : zs.length ≤ 64) (h2 : zs.sum + ps.sum ≤ 4611686018427387904) : chk zs ps = 0 := by
  unfold chk
  rw [if_neg (by omega), if_neg (by omega), if_neg (by omega)]
theorem Four.length {ps : List Int} (h : Four ps) : ps.length = 4 := by obtain ⟨_, _, _, _, rfl⟩ := h; rfl
theorem bkC_len {v : Value} {ps : List Int} (h : ps.length = 4) : (bkC v ps).length = 5 := by simp [bkC, h]
theorem bkC_one {A : Option Addr} {n c : Nat} {ps : List Int} : ∀ u ∈ bkC (.slice A n c) ps, u.oneCell' = true := by
  intro u hu
  rcases List.mem_cons.1 hu with rfl | hu
  · rfl
  · exact Kk.ints_ok ps u hu
/-- The pools in a bank's block. -/
theorem pools_su {w : World} {b : Nat} {v : Value} {ps : List Int} (h : w.rangeAt b 0 (bkC v ps)) (hl : ps.length = 4) : SU w (some ⟨b, 1, none⟩) 4 4 ps := by
  have hlt : b < w.heap.size := World.block_lt_of_cell? w _ (h 0 v rfl)
  refine ⟨⟨hl, fun _ => ⟨b, 1, rfl, hlt, fun i hi => ?_⟩⟩, Nat.le_refl _, fun h => by cases h⟩
  have := h (1 + i) (.int .u64 (ps.getD i 0)) (by
    rw [Nat.add_comm, show bkC v ps = v :: ps.map (Value.int .u64) from rfl, List.getElem?_cons_succ, List.getElem?_map, List.getElem?_eq_getElem (by omega), Kk.getD_eq _ _ (by omega)]; rfl)
  rwa [Nat.zero_add] at this
theorem bk_slice {w : World} {b : Nat} {v : Value} {ps : List Int} (h : w.rangeAt b 0 (bkC v ps)) : w.cell? ⟨b, 0, none⟩ = some v := h 0 v rfl
end Bk
end Go.Proofs.Ytgdaojbflokmoaa
end

section
/-
  What bank.sum and bank.Check answer. Conditions: the amounts are words; there are four pools.
-/
namespace Go.Proofs.Ytgdaojbflokmoaa
open Go.RowKit Go.Shelf
set_option linter.unusedVariables false
namespace Bk
open Pm

structure Ent where
  A : Option Addr
  n : Nat
  c : Nat
  zs : List Int
def Ent.v (x : Ent) : Value := .slice x.A x.n x.c
def Ent.ok (x : Ent) (w : World) : Prop := SU w x.A x.n x.c x.zs ∧ Words x.zs ∧ x.n ≤ 1000000000000
def total (L : List Ent) : Int := (L.map fun x => x.zs.sum).sum
theorem total0 {L : List Ent} {w : World} (h : ∀ x ∈ L, x.ok w) : 0 ≤ total L := by
  induction L with
  | nil => exact Int.le_refl _
  | cons x r ih =>
    have h1 := ih fun y hy => h y (List.mem_cons_of_mem _ hy)
    have h2 := sum0 (h x (List.mem_cons_self ..)).2.1
    show 0 ≤ x.zs.sum + total r
    omega
theorem total_take (L : List Ent) (k : Nat) (h : k < L.length) : total (L.take (k + 1)) = total (L.take k) + (L[k]).zs.sum := by
  unfold total
  rw [List.take_add_one, List.map_append, List.sum_append, List.getElem?_eq_getElem h]
  simp
theorem total_le {L : List Ent} {w : World} (h : ∀ x ∈ L, x.ok w) (k : Nat) : total (L.take k) ≤ total L := by
  have h2 : total L = total (L.take k) + total (L.drop k) := by
    unfold total
    rw [← List.sum_append, ← List.map_append, List.take_append_drop]
  have h1 := total0 (L := L.drop k) fun y hy => h y (List.mem_of_mem_drop hy)
  omega

theorem sumW (A : Option Addr) (n c : Nat) (zs : List Int) (w : World) (hi : SU w A n c zs) (hw : Words zs) (hn : n ≤ 1000000000000) :
    Calls Try.prog 93 #[.slice A n c] w fun e w' => e = .returned (.tuple #[.int .u64 (Fix.amt zs.sum), .int .i64 (Fix.amtE zs.sum)]) ∧ Kk.Bel w w' := by
  rw [← sum_all zs hi.len]
  exact Fix.sum A n c zs w hi.ints hw (by omega)
theorem addW (a b : Int) (w : World) (a0 : 0 ≤ a) (a1 : a ≤ 18446744073709551615) (b0 : 0 ≤ b) (b1 : b ≤ 18446744073709551615) :
    Calls Try.prog 89 #[.int .u64 a, .int .u64 b] w fun e w' => e = .returned (.tuple #[.int .u64 (Fix.amt (a + b)), .int .i64 (Fix.amtE (a + b))]) ∧ Kk.Bel w w' := Fix.add a b w a0 a1 b0 b1

set_option maxHeartbeats 1000000 in
theorem sum_ (g m c : Nat) (L : List Ent) (w : World) (hl : L.length = m) (hr : w.rangeAt g 0 (L.map Ent.v)) (hs : ∀ x ∈ L, x.ok w) (hm : m ≤ 1000) :
    Calls Try.prog 43 #[.slice (some ⟨g, 0, none⟩) m c] w fun e w' => e = .returned (.tuple #[.int .u64 (Fix.amt (total L)), .int .i64 (Fix.amtE (total L))]) ∧ Kk.Bel w w' := by
  have HR := Lib.hid hr
  have HS := Lib.hid hs
  have HL := Lib.hid hl
  clear hr hs hl
  go_enter Try.func43, Try.ntmps43
  go_wp2_with fail
  go_loopw [4, 11] (fun r i wr => ∃ k : Nat, k ≤ m ∧ i = .int .i64 k ∧ r = .int .u64 (total (L.take k)) ∧ total (L.take k) ≤ 18446744073709551615 ∧ Kk.Bel w wr) (fun _ i _ => m - (intOf i).toNat)
  case atStart => exact ⟨0, Nat.zero_le _, rfl, rfl, by show (0 : Int) ≤ _; decide, Kk.Bel.refl _⟩
  case round =>
    obtain ⟨k, hk, rfl, rfl, ht, hb⟩ := hrel
    have ht0 := total0 (L := L.take k) fun y hy => HS.out y (List.mem_of_mem_take hy)
    by_cases hlt : k < m
    · have hkl : k < L.length := by rw [HL.out]; exact hlt
      have hx := HS.out L[k] (List.getElem_mem hkl)
      have hcell : wr.cell? ⟨g, k, none⟩ = some (L[k]).v := by
        have := rng_bel HR.out hb k (L[k]).v (by rw [List.getElem?_map, List.getElem?_eq_getElem hkl]; rfl)
        rwa [Nat.zero_add] at this
      have hstep := Lib.hid (total_take L k hkl)
      have hend := Lib.hid (total_le HS.out (k + 1))
      generalize L[k] = X at *
      obtain ⟨A, n', c', zs⟩ := X
      have HX := Lib.hid hx
      clear hx
      have z0 := sum0 HX.out.2.1
      have hcell : wr.cell? ⟨g, k, none⟩ = some (.slice A n' c') := hcell
      have CS := Lib.hid (fun V (h : Kk.Bel w V) => sumW A n' c' zs V (HX.out.1.bel h) HX.out.2.1 HX.out.2.2)
      obtain ⟨P, hP⟩ : ∃ P, zs.sum = P := ⟨_, rfl⟩
      have hstep : total (L.take (k + 1)) = total (L.take k) + P := by rw [← hP]; exact hstep.out
      rw [hP] at CS z0
      generalize total (L.take k) = T at *
      rcases Int.lt_or_le 18446744073709551615 P with hgt | hle
      · obtain ⟨e1, e2⟩ := Fix.amt_no hgt
        have hend := hend.out
        obtain ⟨e3, e4⟩ := Fix.amt_no (P := total L) (by omega)
        rw [e1, e2] at CS
        have E3 := Lib.hid e3
        have E4 := Lib.hid e4
        have HB := Lib.hid hb
        clear e1 e2 e3 e4 hend hstep hb hP HX
        go_wp2_with fail
        refine (CS.out _ HB.out).mono ?_
        rintro e w' ⟨rfl, hb'⟩
        clear CS
        go_wp2
        go_ret2
        exact ⟨by rw [E3.out, E4.out]; rfl, HB.out.trans hb'⟩
      · obtain ⟨e1, e2⟩ := Fix.amt_of hle
        rw [e1, e2] at CS
        have HB := Lib.hid hb
        clear e1 e2 hb hP HX
        rcases Int.lt_or_le 18446744073709551615 (T + P) with hgt | hle2
        · obtain ⟨e1, e2⟩ := Fix.amt_no hgt
          have hend := hend.out
          obtain ⟨e3, e4⟩ := Fix.amt_no (P := total L) (by omega)
          have CA := Lib.hid (fun V => addW T P V ht0 ht z0 hle)
          rw [e1, e2] at CA
          have E3 := Lib.hid e3
          have E4 := Lib.hid e4
          clear e1 e2 e3 e4 hend hstep
          go_wp2_with fail
          refine (CS.out _ HB.out).mono ?_
          rintro e w' ⟨rfl, hb'⟩
          have HB' := Lib.hid (HB.out.trans hb')
          clear CS hb'
          go_wp2_with fail
          refine (CA.out _).mono ?_
          rintro e w'' ⟨rfl, hb'⟩
          clear CA
          go_wp2
          go_ret2
          exact ⟨by rw [E3.out, E4.out]; rfl, HB'.out.trans hb'⟩
        · obtain ⟨e1, e2⟩ := Fix.amt_of hle2
          have CA := Lib.hid (fun V => addW T P V ht0 ht z0 hle)
          rw [e1, e2] at CA
          have HST := Lib.hid hstep
          clear e1 e2 hend hstep
          go_wp2_with fail
          refine (CS.out _ HB.out).mono ?_
          rintro e w' ⟨rfl, hb'⟩
          have HB' := Lib.hid (HB.out.trans hb')
          clear CS hb'
          go_wp2_with fail
          refine (CA.out _).mono ?_
          rintro e w'' ⟨rfl, hb'⟩
          clear CA
          go_wp2
          go_roundw
          case rel => exact ⟨k + 1, by omega, by go_num, by rw [HST.out], by rw [HST.out]; exact hle2, HB'.out.trans hb'⟩
          case measure => simp [intOf]; omega
    · obtain rfl : k = m := by omega
      have HT : total (L.take k) = total L := by rw [List.take_of_length_le (by rw [HL.out]; omega)]
      rw [HT] at ht ⊢
      obtain ⟨e3, e4⟩ := Fix.amt_of ht
      have E3 := Lib.hid e3
      have E4 := Lib.hid e4
      have HB := Lib.hid hb
      clear e3 e4 HT hb
      go_wp2
      go_ret2
      exact ⟨by rw [E3.out, E4.out]; rfl, HB.out⟩

set_option maxHeartbeats 1000000 in
/-- bank.Check. -/
theorem check (A : Option Addr) (n c : Nat) (zs ps : List Int) (w : World) (hi : SU w A n c zs) (hn : n ≤ 1000000000) (hz : Words zs) (hp : Words ps) (h4 : ps.length = 4) :
    Calls Try.prog 18 #[.agg (bkC (.slice A n c) ps).toArray] w fun e w' => e = .returned (.int .i64 (chk zs ps)) ∧ Kk.Bel w w' := by
  obtain ⟨W0, hW0⟩ : ∃ W0, w.alloc (.cells (bkC (.slice A n c) ps).toArray 26) = W0 := ⟨_, rfl⟩
  have B0 := Lib.hid (show Kk.Bel w W0 by rw [← hW0]; exact (Kk.Bel.refl w).alloc _)
  have R0 := Lib.hid (show W0.rangeAt w.heap.size 0 (bkC (.slice A n c) ps) by rw [← hW0]; exact rngB (Kk.Blk.new w _ 26))
  obtain ⟨p, hp'⟩ : ∃ p, w.heap.size = p := ⟨_, rfl⟩
  have c0 : W0.cell? ⟨p, 0, none⟩ = some (.slice A n c) := by rw [← hp']; exact bk_slice R0.out
  have PS := Lib.hid (fun V (h : Kk.Bel W0 V) => pools_su (rng_bel R0.out h) h4)
  have ZS := Lib.hid (fun V (h : Kk.Bel W0 V) => (hi.bel B0.out).bel h)
  have hl := hi.len
  have s0 := sum0 hz
  have s1 := sum0 hp
  have H4 := Lib.hid h4
  have HZ := Lib.hid hz
  have HPS := Lib.hid hp
  have HP := Lib.hid hp'
  have HW := Lib.hid hW0
  rw [HP.out] at PS R0
  have hW1 := Lib.hid (show p < W0.heap.size from World.block_lt_of_cell? W0 _ c0)
  clear hi hz hp h4 hp' hW0
  by_cases h0 : n = 0
  · subst h0
    have HC := Lib.hid (show chk zs ps = 3 by unfold chk; rw [if_pos (by omega)])
    go_enter Try.func18, Try.ntmps18
    go_upto_region 1 with fail
    rw [HW.out, HP.out]
    go_wp2
    go_ret
    exact ⟨by rw [HC.out]; rfl, B0.out⟩
  · have h0' : ((n : Int) == 0) = false := by simpa using h0
    by_cases h1 : 64 < n
    · have h1' : (64 : Int) < n := by omega
      have HC := Lib.hid (show chk zs ps = 4 by unfold chk; rw [if_neg (by omega), if_pos (by omega)])
      go_enter Try.func18, Try.ntmps18
      go_upto_region 1 with fail
      rw [HW.out, HP.out]
      go_wp2
      go_ret
      exact ⟨by rw [HC.out]; rfl, B0.out⟩
    · have h1' : ¬ (64 : Int) < n := by omega
      go_enter Try.func18, Try.ntmps18
      go_upto_region 1 with fail
      rw [HW.out, HP.out]
      go_upto_region 5 with fail
      obtain ⟨s0x, hs0x⟩ : ∃ s, zs.sum + ps.sum = s := ⟨_, rfl⟩
      have CS := Lib.hid (fun (V : World) (g : Nat) (hb : Kk.Bel W0 V) (hr : V.rangeAt g 0 [.slice A n c, .slice (some ⟨p, 1, none⟩) 4 4]) =>
        sum_ g 2 2 [⟨A, n, c, zs⟩, ⟨some ⟨p, 1, none⟩, 4, 4, ps⟩] V rfl hr (by
          intro x hx
          rcases List.mem_cons.1 hx with rfl | hx
          · exact ⟨ZS.out V hb, HZ.out, by show n ≤ _; omega⟩
          · obtain rfl := List.mem_singleton.1 hx
            exact ⟨PS.out V hb, HPS.out, by show (4 : Nat) ≤ _; omega⟩) (by omega))
      rw [show total [⟨A, n, c, zs⟩, ⟨some ⟨p, 1, none⟩, 4, 4, ps⟩] = s0x by rw [← hs0x]; simp [total]] at CS
      have sp : 0 ≤ s0x := by omega
      have HC := Lib.hid (show chk zs ps = if 4611686018427387904 < s0x then 12 else 0 by unfold chk; rw [if_neg (by omega), if_neg (by omega), hs0x])
      clear hs0x s0 s1
      refine wp_region_held_drew (S := fun V => Kk.Bel W0 V) (by kernel_rfl) (Kk.Bel.refl _).drew (fun hS0 => ?_)
      obtain ⟨w6, hw6⟩ : ∃ w6, World.drew W0 = w6 := ⟨_, rfl⟩
      rw [hw6] at hS0 ⊢
      clear hw6
      refine wpAnyH_take (i := 0) (oi := { dst := some 14, op := .fieldAddr 26 (.tmp 1) 0, type := 0, pos := "bank.go:28", after := #[], guard := none }) (v := .pointer (some ⟨p, 0, none⟩)) rfl (by kernel_rfl) (by kernel_rfl) (by kernel_rfl) (fun _ _ _ h => h) (Or.inl ⟨by rfl, by intro w hSw; clear hSw; go_simp⟩) hS0 ?_
      try simp only [Act.put, List.setIfInBounds_toArray, List.set_cons_zero, List.set_cons_succ]
      refine wpAnyH_take (i := 1) (oi := { dst := some 15, op := .load 22 (.tmp 14), type := 22, pos := "bank.go:28", after := #[{ on := 0, ground := .data }], guard := none }) (v := .slice A n c) rfl (by kernel_rfl) (by kernel_rfl) (by kernel_rfl) (fun _ _ _ h => h) (Or.inl ⟨by rfl, by intro w h; have hcell := (cell_bel c0 h); clear h; go_simp⟩) hS0 ?_
      try simp only [Act.put, List.setIfInBounds_toArray, List.set_cons_zero, List.set_cons_succ]
      refine wpAnyH_take (i := 2) (oi := { dst := some 16, op := .fieldAddr 26 (.tmp 1) 1, type := 0, pos := "bank.go:28", after := #[], guard := none }) (v := .pointer (some ⟨p, 1, none⟩)) rfl (by kernel_rfl) (by kernel_rfl) (by kernel_rfl) (fun _ _ _ h => h) (Or.inl ⟨by rfl, by intro w hSw; clear hSw; go_simp⟩) hS0 ?_
      try simp only [Act.put, List.setIfInBounds_toArray, List.set_cons_zero, List.set_cons_succ]
      refine wpAnyH_take (i := 3) (oi := { dst := some 17, op := .slice 24 (.tmp 16) none none none, type := 22, pos := "bank.go:28", after := #[{ on := 2, ground := .data }], guard := none }) (v := .slice (some ⟨p, 1, none⟩) 4 4) rfl (by kernel_rfl) (by kernel_rfl) (by kernel_rfl) (fun _ _ _ h => h) (Or.inl ⟨by rfl, by intro w hSw; clear hSw; go_simp⟩) hS0 ?_
      try simp only [Act.put, List.setIfInBounds_toArray, List.set_cons_zero, List.set_cons_succ]
      refine wpAnyH_ready (rs := [4]) (by kernel_rfl) (by simp) ?_
      refine AllReadyH.cons (o := { dst := some 18, op := .buildSlice 110 2 #[(0, .tmp 15), (1, .tmp 17)], type := 110, pos := "bank.go:28", after := #[{ on := 1, ground := .data }, { on := 3, ground := .data }], guard := none }) rfl (fun K hK => ?_) AllReadyH.nil
      go_simp
      refine hK.out _ _ (hS0.alloc _) (fun hS1 => ?_)
      clear hK K
      try simp only [Act.put, List.setIfInBounds_toArray, List.set_cons_zero, List.set_cons_succ]
      obtain ⟨g, hg⟩ : ∃ g, (World.heap w6).size = g := ⟨_, rfl⟩
      have R1 : (World.alloc w6 (.cells #[.slice A n c, .slice (some ⟨p, 1, none⟩) 4 4] 22)).rangeAt g 0 [.slice A n c, .slice (some ⟨p, 1, none⟩) 4 4] := by rw [← hg]; exact rngB (Kk.Blk.new w6 _ 22)
      obtain ⟨v1, hv⟩ : ∃ v, World.alloc w6 (.cells #[.slice A n c, .slice (some ⟨p, 1, none⟩) 4 4] 22) = v := ⟨_, rfl⟩
      rw [hv] at R1 hS1 ⊢
      rw [hg]
      clear hv hg
      refine wpAnyH_ready (rs := [5]) (by kernel_rfl) (by simp) ?_
      refine AllReadyH.cons (o := { dst := some 19, op := .call { callee := .value (.func 43), args := #[.tmp 18], argTypes := #[110] }, type := 35, pos := "bank.go:28", after := #[{ on := 4, ground := .data }], guard := none }) rfl (fun K hK => ?_) AllReadyH.nil
      go_simp
      refine (CS.out v1 g hS1 R1).mono ?_
      rintro e v2 ⟨rfl, k2⟩
      go_wp2_with fail
      refine hK.out _ _ (hS1.trans k2) (fun hS2 => ?_)
      clear hK K
      try simp only [Act.put, List.setIfInBounds_toArray, List.set_cons_zero, List.set_cons_succ]
      refine wpAnyH_take (i := 6) (oi := { dst := some 13, op := .move (.tmp 19), type := 35, pos := "bank.go:28", after := #[{ on := 5, ground := .data }], guard := none }) (v := .tuple #[.int .u64 (Fix.amt s0x), .int .i64 (Fix.amtE s0x)]) rfl (by kernel_rfl) (by kernel_rfl) (by kernel_rfl) (fun _ _ _ h => h) (Or.inl ⟨by rfl, by intro w hSw; clear hSw; go_simp⟩) hS2 ?_
      try simp only [Act.put, List.setIfInBounds_toArray, List.set_cons_zero, List.set_cons_succ]
      refine wpAnyH_take (i := 7) (oi := { dst := some 20, op := .extract (.tmp 13) 0, type := 23, pos := "bank.go:28", after := #[{ on := 6, ground := .data }], guard := none }) (v := .int .u64 (Fix.amt s0x)) rfl (by kernel_rfl) (by kernel_rfl) (by kernel_rfl) (fun _ _ _ h => h) (Or.inl ⟨by rfl, by intro w hSw; clear hSw; go_simp⟩) hS2 ?_
      try simp only [Act.put, List.setIfInBounds_toArray, List.set_cons_zero, List.set_cons_succ]
      refine wpAnyH_take (i := 8) (oi := { dst := some 21, op := .extract (.tmp 13) 1, type := 30, pos := "bank.go:28", after := #[{ on := 6, ground := .data }, { on := 9, ground := .gcOnly .lateStores }], guard := none }) (v := .int .i64 (Fix.amtE s0x)) rfl (by kernel_rfl) (by kernel_rfl) (by kernel_rfl) (fun _ _ _ h => h) (Or.inl ⟨by rfl, by intro w hSw; clear hSw; go_simp⟩) hS2 ?_
      try simp only [Act.put, List.setIfInBounds_toArray, List.set_cons_zero, List.set_cons_succ]
      refine wpAnyH_take (i := 9) (oi := { dst := some 3, op := .assign (.tmp 20), type := 23, pos := "bank.go:28", after := #[{ on := 7, ground := .data }, { on := 5, ground := .chain }, { on := 0, ground := .phase }, { on := 1, ground := .phase }, { on := 2, ground := .phase }, { on := 3, ground := .phase }, { on := 4, ground := .phase }, { on := 5, ground := .phase }, { on := 6, ground := .phase }, { on := 7, ground := .phase }, { on := 8, ground := .textOnly .lateStores }], guard := none }) (v := .int .u64 (Fix.amt s0x)) rfl (by kernel_rfl) (by kernel_rfl) (by kernel_rfl) (fun _ _ _ h => h) (Or.inl ⟨by rfl, by intro w hSw; clear hSw; go_simp⟩) hS2 ?_
      try simp only [Act.put, List.setIfInBounds_toArray, List.set_cons_zero, List.set_cons_succ]
      refine wpAnyH_take (i := 10) (oi := { dst := some 4, op := .assign (.tmp 21), type := 30, pos := "bank.go:28", after := #[{ on := 8, ground := .data }, { on := 9, ground := .chain }, { on := 0, ground := .phase }, { on := 1, ground := .phase }, { on := 2, ground := .phase }, { on := 3, ground := .phase }, { on := 4, ground := .phase }, { on := 5, ground := .phase }, { on := 6, ground := .phase }, { on := 7, ground := .phase }, { on := 8, ground := .phase }, { on := 9, ground := .phase }], guard := none }) (v := .int .i64 (Fix.amtE s0x)) rfl (by kernel_rfl) (by kernel_rfl) (by kernel_rfl) (fun _ _ _ h => h) (Or.inl ⟨by rfl, by intro w hSw; clear hSw; go_simp⟩) hS2 ?_
      try simp only [Act.put, List.setIfInBounds_toArray, List.set_cons_zero, List.set_cons_succ]
      refine wpAnyH_done (by kernel_rfl) ?_ _
      have HB := Lib.hid (B0.out.trans hS2)
      clear hS0 hS1 hS2 k2 R1 CS
      rcases Int.lt_or_le 18446744073709551615 s0x with hgt | hle
      · obtain ⟨e1, e2⟩ := Fix.amt_no hgt
        rw [e1, e2]
        have HC' := Lib.hid (show chk zs ps = 12 by rw [HC.out, if_pos (by omega)])
        clear e1 e2
        go_wp2
        go_ret
        exact ⟨by rw [HC'.out]; rfl, HB.out⟩
      · obtain ⟨e1, e2⟩ := Fix.amt_of hle
        rw [e1, e2]
        clear e1 e2
        by_cases hm : 4611686018427387904 < s0x
        · have HC' := Lib.hid (show chk zs ps = 12 by rw [HC.out, if_pos hm])
          go_wp2
          go_ret
          exact ⟨by rw [HC'.out]; rfl, HB.out⟩
        · have HC' := Lib.hid (show chk zs ps = 0 by rw [HC.out, if_neg hm])
          go_wp2
          go_ret
          exact ⟨by rw [HC'.out]; rfl, HB.out⟩
end Bk
end Go.Proofs.Ytgdaojbflokmoaa
end

section
/-
  What bank.clone and distraintkit.CopyBank answer: a bank of the same amounts in new memory. Conditions: the amounts are words; there are four pools.
-/
namespace Go.Proofs.Ytgdaojbflokmoaa
open Go.RowKit Go.Shelf
set_option linter.unusedVariables false
namespace Bk
open Pm

/-- A bank in new memory. -/
def FB (w w' : World) (V : Value) (zs ps : List Int) : Prop := ∃ v, V = .agg (bkC v ps).toArray ∧ Fresh w w' v zs
theorem FB.bel {w w' : World} {V : Value} {zs ps : List Int} (h : FB w w' V zs ps) : Kk.Bel w w' := by obtain ⟨_, _, h⟩ := h; exact h.2
theorem fb_zero {w w' : World} (h : Kk.Bel w w') : FB w w' (.agg #[.slice none 0 0, .int .u64 0, .int .u64 0, .int .u64 0, .int .u64 0]) [] [0, 0, 0, 0] := ⟨_, rfl, fresh_nil h⟩
theorem fresh_one {w w' : World} {v : Value} {zs : List Int} (h : Fresh w w' v zs) : v.oneCell' = true := by
  obtain ⟨A, c, rfl, _⟩ := h.su
  rfl
theorem blk5 {w : World} {b : Nat} {C : List Value} {t : TypeId} (h : Kk.Blk w b C.toArray t) (hl : C.length = 5) (Y : List Value) (hY : Y.length = 5) : Kk.Blk (w.setCells b 0 Y) b Y.toArray t :=
  bwhole h (by simp [hl, hY])
theorem one5 {v : Value} {a b c d : Int} (h : v.oneCell' = true) : (#[v, .int .u64 a, .int .u64 b, .int .u64 c, .int .u64 d] : Array Value).all (·.oneCell') = true := by
  simp [h]
  exact ⟨rfl, rfl, rfl, rfl⟩

theorem fresh_set {w v1 : World} {v : Value} {zs : List Int} {g : Nat} {C : Array Value} {t : TypeId} (h : Fresh w v1 v zs) (hb : Kk.Blk v1 g C t) (ht : t ≠ 23) {Y : List Value} {o : Nat} (hB : Kk.Bel w (v1.setCells g o Y)) : Fresh w (v1.setCells g o Y) v zs :=
  ⟨Kk.Kep.owns (kep_setCells g Y o v1) (fun k hk e => hb.not_row ht h.1 (by rw [hk, e])) h.1, hB⟩


set_option maxRecDepth 10000 in
set_option maxHeartbeats 1000000 in
theorem clone (A : Option Addr) (n c : Nat) (zs : List Int) (p0 p1 p2 p3 : Int) (w : World) (hi : SU w A n c zs) (hn : n ≤ 1000000000) :
    Calls Try.prog 42 #[.agg #[.slice A n c, .int .u64 p0, .int .u64 p1, .int .u64 p2, .int .u64 p3]] w fun e w' => ∃ V, e = .returned V ∧ FB w w' V zs [p0, p1, p2, p3] := by
  obtain ⟨W0, hW0⟩ : ∃ W0, w.alloc (.cells #[.slice A n c, .int .u64 p0, .int .u64 p1, .int .u64 p2, .int .u64 p3] 26) = W0 := ⟨_, rfl⟩
  have B0 := Lib.hid (show Kk.Bel w W0 by rw [← hW0]; exact (Kk.Bel.refl w).alloc _)
  have R0 := Lib.hid (show W0.rangeAt w.heap.size 0 (bkC (.slice A n c) [p0, p1, p2, p3]) by rw [← hW0]; exact rngB (C := bkC (.slice A n c) [p0, p1, p2, p3]) (Kk.Blk.new w _ 26))
  obtain ⟨p, hp⟩ : ∃ p, w.heap.size = p := ⟨_, rfl⟩
  have hsz : W0.heap.size = p + 1 := by rw [← hW0, ← hp, World.size_alloc]
  obtain ⟨W1, hW1⟩ : ∃ W1, W0.alloc (.cells #[.slice none 0 0, .int .u64 0, .int .u64 0, .int .u64 0, .int .u64 0] 26) = W1 := ⟨_, rfl⟩
  have B1 := Lib.hid (show Kk.Bel w W1 by rw [← hW1]; exact B0.out.alloc _)
  rw [hp] at R0
  have Q1 := Lib.hid (show Kk.Blk W1 (p + 1) (bkC (.slice none 0 0) [0, 0, 0, 0]).toArray 26 by rw [← hW1, ← hsz]; exact Kk.Blk.new W0 _ _)
  have CW := Lib.hid (fun V (h : Kk.Bel W1 V) => cloneWords A n c zs V ((hi.bel B1.out).bel h) hn)
  have RP := Lib.hid (show W0.rangeAt p 1 [.int .u64 p0, .int .u64 p1, .int .u64 p2, .int .u64 p3] from fun j v hv => by
    have := R0.out (1 + j) v (by rw [Nat.add_comm]; exact hv)
    rwa [Nat.zero_add] at this)
  have HP := Lib.hid hp
  have HSZ := Lib.hid hsz
  have HW0 := Lib.hid hW0
  have HW1 := Lib.hid hW1
  have uP := Try.underlying24
  have uB := Try.underlying26
  clear hi hp hW0 hW1 hsz
  go_enter Try.func42, Try.ntmps42
  go_upto_region 1 with fail
  rw [HW0.out, HP.out, HW1.out]
  have B01 := Lib.hid (show Kk.Bel W0 W1 by rw [← HW1.out]; exact (Kk.Bel.refl _).alloc _)
  refine wp_region_held_drew (S := fun V => Kk.Bel W0 V) (by kernel_rfl) B01.out.drew (fun hS0 => ?_)
  have K0 := (Kk.Bel.refl W1).drew
  obtain ⟨w6, hw6⟩ : ∃ w6, World.drew W1 = w6 := ⟨_, rfl⟩
  rw [hw6] at hS0 K0 ⊢
  clear hw6
  refine wpAnyH_take (i := 0) (oi := { dst := some 3, op := .fieldAddr 26 (.tmp 1) 0, type := 0, pos := "bank.go:78", after := #[], guard := none }) (v := .pointer (some ⟨p, 0, none⟩)) rfl (by kernel_rfl) (by kernel_rfl) (by kernel_rfl) (fun _ _ _ h => h) (Or.inl ⟨by rfl, by intro w hSw; clear hSw; go_simp⟩) hS0 ?_
  try simp only [Act.put, List.setIfInBounds_toArray, List.set_cons_zero, List.set_cons_succ]
  refine wpAnyH_take (i := 1) (oi := { dst := some 4, op := .load 22 (.tmp 3), type := 22, pos := "bank.go:78", after := #[{ on := 0, ground := .data }], guard := none }) (v := .slice A n c) rfl (by kernel_rfl) (by kernel_rfl) (by kernel_rfl) (fun _ _ _ h => h) (Or.inl ⟨by rfl, by intro w h; have hcell := (cell_bel (bk_slice R0.out) h); clear h; go_simp⟩) hS0 ?_
  try simp only [Act.put, List.setIfInBounds_toArray, List.set_cons_zero, List.set_cons_succ]
  refine wpAnyH_take (i := 3) (oi := { dst := some 6, op := .fieldAddr 26 (.tmp 1) 1, type := 0, pos := "bank.go:78", after := #[], guard := none }) (v := .pointer (some ⟨p, 1, none⟩)) rfl (by kernel_rfl) (by kernel_rfl) (by kernel_rfl) (fun _ _ _ h => h) (Or.inl ⟨by rfl, by intro w hSw; clear hSw; go_simp⟩) hS0 ?_
  try simp only [Act.put, List.setIfInBounds_toArray, List.set_cons_zero, List.set_cons_succ]
  refine wpAnyH_take (i := 4) (oi := { dst := some 7, op := .load 24 (.tmp 6), type := 24, pos := "bank.go:78", after := #[{ on := 3, ground := .data }], guard := none }) (v := .agg #[.int .u64 p0, .int .u64 p1, .int .u64 p2, .int .u64 p3]) rfl (by kernel_rfl) (by kernel_rfl) (by kernel_rfl) (fun _ _ _ h => h) (yieldsIf_load_mid (by rfl) _ _ rfl _ _ rfl _ _ (fun w h => rng_bel RP.out h) uP rfl info_pools) hS0 ?_
  try simp only [Act.put, List.setIfInBounds_toArray, List.set_cons_zero, List.set_cons_succ]
  refine wpAnyH_ready (rs := [2]) (by kernel_rfl) (by simp) ?_
  refine AllReadyH.cons (o := { dst := some 5, op := .call { callee := .value (.func 66), args := #[.tmp 4], argTypes := #[22] }, type := 22, pos := "bank.go:78", after := #[{ on := 1, ground := .data }], guard := none }) rfl (fun K hK => ?_) AllReadyH.nil
  go_simp
  refine (CW.out w6 K0).mono ?_
  rintro e v1 ⟨v, rfl, f1⟩
  go_wp2_with fail
  refine hK.out _ _ (hS0.trans f1.2) (fun hS1 => ?_)
  clear hK K
  try simp only [Act.put, List.setIfInBounds_toArray, List.set_cons_zero, List.set_cons_succ]
  obtain ⟨V, cv, hv, _⟩ := f1.su
  subst hv
  have K1 := Lib.hid (K0.trans f1.2)
  have FV := Lib.hid (Fresh.after (B1.out.trans K0) f1)
  have O1 := Lib.hid (one5 (a := p0) (b := p1) (c := p2) (d := p3) (fresh_one f1))
  refine wpAnyH_take (i := 5) (oi := { dst := some 8, op := .build 26 #[(0, .tmp 5), (1, .tmp 7)], type := 26, pos := "bank.go:78", after := #[{ on := 2, ground := .data }, { on := 4, ground := .data }], guard := none }) (v := .agg #[.slice V zs.length cv, .int .u64 p0, .int .u64 p1, .int .u64 p2, .int .u64 p3]) rfl (by kernel_rfl) (by kernel_rfl) (by kernel_rfl) (fun _ _ _ h => h) (Or.inl ⟨by rfl, by intro w hSw; clear hSw; go_simp⟩) hS1 ?_
  try simp only [Act.put, List.setIfInBounds_toArray, List.set_cons_zero, List.set_cons_succ]
  clear f1
  obtain ⟨Y, hY⟩ : ∃ Y, Y = ([.slice V zs.length cv, .int .u64 p0, .int .u64 p1, .int .u64 p2, .int .u64 p3] : List Value) := ⟨_, rfl⟩
  rw [← hY]
  have YL := Lib.hid (show Y.length = 5 by rw [hY]; rfl)
  have O1 := Lib.hid (show Y.toArray.all (·.oneCell') = true by rw [hY]; exact O1.out)
  have HY := Lib.hid hY
  clear hY
  refine wpAnyH_ready (rs := [6]) (by kernel_rfl) (by simp) ?_
  refine AllReadyH.cons (o := { dst := none, op := .store 26 (.tmp 2) (.tmp 8), type := 0, pos := "bank.go:78", after := #[{ on := 5, ground := .data }, { on := 2, ground := .chain }, { on := 0, ground := .phase }, { on := 1, ground := .phase }, { on := 2, ground := .phase }, { on := 3, ground := .phase }, { on := 4, ground := .phase }, { on := 5, ground := .phase }], guard := none }) rfl (fun K hK => ?_) AllReadyH.nil
  rw [if_pos (by rfl)]
  have QB := Q1.out.bel K1.out
  have hth : v1.there (p + 1) 0 Y.toArray.size := bthere QB 0 _ (by rw [List.size_toArray, YL.out]; exact Nat.le_refl 5)
  have hin : (Try.prog.info? 26).map (·.size) = some Y.toArray.size := by rw [List.size_toArray, YL.out]; exact info_bank
  have ho1 := O1.out
  refine wp_store_mid 26 (.tmp 2) (.tmp 8) rfl (p + 1) 0 Y.toArray rfl rfl hth hin ho1 ?_
  have QE : Kk.Blk (World.setCells v1 (p + 1) 0 Y) (p + 1) Y.toArray 26 := blk5 QB rfl _ YL.out
  have BE : Kk.Bel W0 (World.setCells v1 (p + 1) 0 Y) := bel_setCells hS1 (by rw [HSZ.out]; exact Nat.le_refl _) 0 _
  have BW := Lib.hid (B0.out.trans BE)
  have FE : Fresh w (World.setCells v1 (p + 1) 0 Y) (.slice V zs.length cv) zs := fresh_set FV.out QB (by decide) BW.out
  obtain ⟨v9, hv9⟩ : ∃ v9, World.setCells v1 (p + 1) 0 Y = v9 := ⟨_, rfl⟩
  rw [hv9] at QE BE FE ⊢
  refine hK.out _ _ BE (fun _ => ?_)
  clear hK K hv9
  refine wpAnyH_done (by kernel_rfl) ?_ _
  go_wp2_with fail
  refine bodyPost_ret (res_c Try.results42 _ _ ⟨p + 1, 0, none⟩ (.agg Y.toArray) rfl (load_b QE Try.underlying26 rfl (by rw [YL.out]; exact info_bank))) rfl ⟨_, rfl, .slice V zs.length cv, by rw [HY.out]; rfl, FE⟩


set_option maxRecDepth 10000 in
set_option maxHeartbeats 1000000 in
theorem copyBank (A : Option Addr) (n c : Nat) (zs : List Int) (p0 p1 p2 p3 : Int) (w : World) (hi : SU w A n c zs) (hn : n ≤ 1000000000) :
    Calls Try.prog 7 #[.agg #[.slice A n c, .int .u64 p0, .int .u64 p1, .int .u64 p2, .int .u64 p3]] w fun e w' => ∃ V, e = .returned V ∧ FB w w' V zs [p0, p1, p2, p3] := by
  obtain ⟨W0, hW0⟩ : ∃ W0, w.alloc (.cells #[.slice A n c, .int .u64 p0, .int .u64 p1, .int .u64 p2, .int .u64 p3] 26) = W0 := ⟨_, rfl⟩
  have B0 := Lib.hid (show Kk.Bel w W0 by rw [← hW0]; exact (Kk.Bel.refl w).alloc _)
  have R0 := Lib.hid (show W0.rangeAt w.heap.size 0 (bkC (.slice A n c) [p0, p1, p2, p3]) by rw [← hW0]; exact rngB (C := bkC (.slice A n c) [p0, p1, p2, p3]) (Kk.Blk.new w _ 26))
  obtain ⟨p, hp⟩ : ∃ p, w.heap.size = p := ⟨_, rfl⟩
  have hsz : W0.heap.size = p + 1 := by rw [← hW0, ← hp, World.size_alloc]
  obtain ⟨W1, hW1⟩ : ∃ W1, W0.alloc (.cells #[.slice none 0 0, .int .u64 0, .int .u64 0, .int .u64 0, .int .u64 0] 26) = W1 := ⟨_, rfl⟩
  have B1 := Lib.hid (show Kk.Bel w W1 by rw [← hW1]; exact B0.out.alloc _)
  rw [hp] at R0
  have Q1 := Lib.hid (show Kk.Blk W1 (p + 1) (bkC (.slice none 0 0) [0, 0, 0, 0]).toArray 26 by rw [← hW1, ← hsz]; exact Kk.Blk.new W0 _ _)
  have CW := Lib.hid (fun V (h : Kk.Bel W1 V) => copyWords A n c zs V ((hi.bel B1.out).bel h) hn)
  have RP := Lib.hid (show W0.rangeAt p 1 [.int .u64 p0, .int .u64 p1, .int .u64 p2, .int .u64 p3] from fun j v hv => by
    have := R0.out (1 + j) v (by rw [Nat.add_comm]; exact hv)
    rwa [Nat.zero_add] at this)
  have HP := Lib.hid hp
  have HSZ := Lib.hid hsz
  have HW0 := Lib.hid hW0
  have HW1 := Lib.hid hW1
  have uP := Try.underlying24
  have uB := Try.underlying26
  clear hi hp hW0 hW1 hsz
  go_enter Try.func7, Try.ntmps7
  go_upto_region 1 with fail
  rw [HW0.out, HP.out, HW1.out]
  have B01 := Lib.hid (show Kk.Bel W0 W1 by rw [← HW1.out]; exact (Kk.Bel.refl _).alloc _)
  refine wp_region_held_drew (S := fun V => Kk.Bel W0 V) (by kernel_rfl) B01.out.drew (fun hS0 => ?_)
  have K0 := (Kk.Bel.refl W1).drew
  obtain ⟨w6, hw6⟩ : ∃ w6, World.drew W1 = w6 := ⟨_, rfl⟩
  rw [hw6] at hS0 K0 ⊢
  clear hw6
  refine wpAnyH_take (i := 0) (oi := { dst := some 3, op := .fieldAddr 26 (.tmp 1) 0, type := 0, pos := "banks.go:25", after := #[], guard := none }) (v := .pointer (some ⟨p, 0, none⟩)) rfl (by kernel_rfl) (by kernel_rfl) (by kernel_rfl) (fun _ _ _ h => h) (Or.inl ⟨by rfl, by intro w hSw; clear hSw; go_simp⟩) hS0 ?_
  try simp only [Act.put, List.setIfInBounds_toArray, List.set_cons_zero, List.set_cons_succ]
  refine wpAnyH_take (i := 1) (oi := { dst := some 4, op := .load 22 (.tmp 3), type := 22, pos := "banks.go:25", after := #[{ on := 0, ground := .data }], guard := none }) (v := .slice A n c) rfl (by kernel_rfl) (by kernel_rfl) (by kernel_rfl) (fun _ _ _ h => h) (Or.inl ⟨by rfl, by intro w h; have hcell := (cell_bel (bk_slice R0.out) h); clear h; go_simp⟩) hS0 ?_
  try simp only [Act.put, List.setIfInBounds_toArray, List.set_cons_zero, List.set_cons_succ]
  refine wpAnyH_take (i := 3) (oi := { dst := some 6, op := .fieldAddr 26 (.tmp 1) 1, type := 0, pos := "banks.go:25", after := #[], guard := none }) (v := .pointer (some ⟨p, 1, none⟩)) rfl (by kernel_rfl) (by kernel_rfl) (by kernel_rfl) (fun _ _ _ h => h) (Or.inl ⟨by rfl, by intro w hSw; clear hSw; go_simp⟩) hS0 ?_
  try simp only [Act.put, List.setIfInBounds_toArray, List.set_cons_zero, List.set_cons_succ]
  refine wpAnyH_take (i := 4) (oi := { dst := some 7, op := .load 24 (.tmp 6), type := 24, pos := "banks.go:25", after := #[{ on := 3, ground := .data }], guard := none }) (v := .agg #[.int .u64 p0, .int .u64 p1, .int .u64 p2, .int .u64 p3]) rfl (by kernel_rfl) (by kernel_rfl) (by kernel_rfl) (fun _ _ _ h => h) (yieldsIf_load_mid (by rfl) _ _ rfl _ _ rfl _ _ (fun w h => rng_bel RP.out h) uP rfl info_pools) hS0 ?_
  try simp only [Act.put, List.setIfInBounds_toArray, List.set_cons_zero, List.set_cons_succ]
  refine wpAnyH_ready (rs := [2]) (by kernel_rfl) (by simp) ?_
  refine AllReadyH.cons (o := { dst := some 5, op := .call { callee := .value (.func 41), args := #[.tmp 4], argTypes := #[22] }, type := 22, pos := "banks.go:25", after := #[{ on := 1, ground := .data }], guard := none }) rfl (fun K hK => ?_) AllReadyH.nil
  go_simp
  refine (CW.out w6 K0).mono ?_
  rintro e v1 ⟨v, rfl, f1⟩
  go_wp2_with fail
  refine hK.out _ _ (hS0.trans f1.2) (fun hS1 => ?_)
  clear hK K
  try simp only [Act.put, List.setIfInBounds_toArray, List.set_cons_zero, List.set_cons_succ]
  obtain ⟨V, cv, hv, _⟩ := f1.su
  subst hv
  have K1 := Lib.hid (K0.trans f1.2)
  have FV := Lib.hid (Fresh.after (B1.out.trans K0) f1)
  have O1 := Lib.hid (one5 (a := p0) (b := p1) (c := p2) (d := p3) (fresh_one f1))
  refine wpAnyH_take (i := 5) (oi := { dst := some 8, op := .build 26 #[(0, .tmp 5), (1, .tmp 7)], type := 26, pos := "banks.go:25", after := #[{ on := 2, ground := .data }, { on := 4, ground := .data }], guard := none }) (v := .agg #[.slice V zs.length cv, .int .u64 p0, .int .u64 p1, .int .u64 p2, .int .u64 p3]) rfl (by kernel_rfl) (by kernel_rfl) (by kernel_rfl) (fun _ _ _ h => h) (Or.inl ⟨by rfl, by intro w hSw; clear hSw; go_simp⟩) hS1 ?_
  try simp only [Act.put, List.setIfInBounds_toArray, List.set_cons_zero, List.set_cons_succ]
  clear f1
  obtain ⟨Y, hY⟩ : ∃ Y, Y = ([.slice V zs.length cv, .int .u64 p0, .int .u64 p1, .int .u64 p2, .int .u64 p3] : List Value) := ⟨_, rfl⟩
  rw [← hY]
  have YL := Lib.hid (show Y.length = 5 by rw [hY]; rfl)
  have O1 := Lib.hid (show Y.toArray.all (·.oneCell') = true by rw [hY]; exact O1.out)
  have HY := Lib.hid hY
  clear hY
  refine wpAnyH_ready (rs := [6]) (by kernel_rfl) (by simp) ?_
  refine AllReadyH.cons (o := { dst := none, op := .store 26 (.tmp 2) (.tmp 8), type := 0, pos := "banks.go:25", after := #[{ on := 5, ground := .data }, { on := 2, ground := .chain }, { on := 0, ground := .phase }, { on := 1, ground := .phase }, { on := 2, ground := .phase }, { on := 3, ground := .phase }, { on := 4, ground := .phase }, { on := 5, ground := .phase }], guard := none }) rfl (fun K hK => ?_) AllReadyH.nil
  rw [if_pos (by rfl)]
  have QB := Q1.out.bel K1.out
  have hth : v1.there (p + 1) 0 Y.toArray.size := bthere QB 0 _ (by rw [List.size_toArray, YL.out]; exact Nat.le_refl 5)
  have hin : (Try.prog.info? 26).map (·.size) = some Y.toArray.size := by rw [List.size_toArray, YL.out]; exact info_bank
  have ho1 := O1.out
  refine wp_store_mid 26 (.tmp 2) (.tmp 8) rfl (p + 1) 0 Y.toArray rfl rfl hth hin ho1 ?_
  have QE : Kk.Blk (World.setCells v1 (p + 1) 0 Y) (p + 1) Y.toArray 26 := blk5 QB rfl _ YL.out
  have BE : Kk.Bel W0 (World.setCells v1 (p + 1) 0 Y) := bel_setCells hS1 (by rw [HSZ.out]; exact Nat.le_refl _) 0 _
  have BW := Lib.hid (B0.out.trans BE)
  have FE : Fresh w (World.setCells v1 (p + 1) 0 Y) (.slice V zs.length cv) zs := fresh_set FV.out QB (by decide) BW.out
  obtain ⟨v9, hv9⟩ : ∃ v9, World.setCells v1 (p + 1) 0 Y = v9 := ⟨_, rfl⟩
  rw [hv9] at QE BE FE ⊢
  refine hK.out _ _ BE (fun _ => ?_)
  clear hK K hv9
  refine wpAnyH_done (by kernel_rfl) ?_ _
  go_wp2_with fail
  refine bodyPost_ret (res_c Try.results7 _ _ ⟨p + 1, 0, none⟩ (.agg Y.toArray) rfl (load_b QE Try.underlying26 rfl (by rw [YL.out]; exact info_bank))) rfl ⟨_, rfl, .slice V zs.length cv, by rw [HY.out]; rfl, FE⟩

end Bk
end Go.Proofs.Ytgdaojbflokmoaa
end

section
/-
  What bank.New, Supply, Total and Have answer. Conditions: the amounts are words.
-/
namespace Go.Proofs.Ytgdaojbflokmoaa
open Go.RowKit Go.Shelf
set_option linter.unusedVariables false
namespace Bk
open Pm

def okI (e x : Int) : Int := if e = 0 then x else 0
def okZ (e : Int) (zs : List Int) : List Int := if e = 0 then zs else []
def okP (e : Int) (ps : List Int) : List Int := if e = 0 then ps else [0, 0, 0, 0]
/-- What is wrong with the account k of a bank. -/
def havE (zs ps : List Int) (k : Int) : Int := if chk zs ps = 0 then (if k < 0 ∨ (zs.length : Int) ≤ k then 10 else 0) else chk zs ps
theorem okI_0 (x : Int) : okI 0 x = x := rfl
theorem okI_no {e : Int} (x : Int) (h : ¬ e = 0) : okI e x = 0 := by unfold okI; rw [if_neg h]
theorem okZ_no {e : Int} (x : List Int) (h : ¬ e = 0) : okZ e x = [] := by unfold okZ; rw [if_neg h]
theorem okP_no {e : Int} (x : List Int) (h : ¬ e = 0) : okP e x = [0, 0, 0, 0] := by unfold okP; rw [if_neg h]
theorem checkC (A : Option Addr) (n c : Nat) (zs : List Int) (p0 p1 p2 p3 : Int) (w : World) (hi : SU w A n c zs) (hn : n ≤ 1000000000) (hz : Words zs) (hps : Words [p0, p1, p2, p3]) :
    Calls Try.prog 18 #[.agg #[.slice A n c, .int .u64 p0, .int .u64 p1, .int .u64 p2, .int .u64 p3]] w fun e w' => e = .returned (.int .i64 (chk zs [p0, p1, p2, p3])) ∧ Kk.Bel w w' := check A n c zs [p0, p1, p2, p3] w hi hn hz hps rfl

set_option maxRecDepth 10000 in
set_option maxHeartbeats 1000000 in
theorem supply (A : Option Addr) (n c : Nat) (zs : List Int) (p0 p1 p2 p3 : Int) (w : World) (hi : SU w A n c zs) (hn : n ≤ 1000000000) (hz : Words zs) (hps : Words [p0, p1, p2, p3]) :
    Calls Try.prog 12 #[.agg #[.slice A n c, .int .u64 p0, .int .u64 p1, .int .u64 p2, .int .u64 p3]] w fun e w' => e = .returned (.tuple #[.int .u64 (okI (chk zs [p0, p1, p2, p3]) (zs.sum + List.sum [p0, p1, p2, p3])), .int .i64 (chk zs [p0, p1, p2, p3])]) ∧ Kk.Bel w w' := by
  obtain ⟨W0, hW0⟩ : ∃ W0, w.alloc (.cells #[.slice A n c, .int .u64 p0, .int .u64 p1, .int .u64 p2, .int .u64 p3] 26) = W0 := ⟨_, rfl⟩
  have B0 := Lib.hid (show Kk.Bel w W0 by rw [← hW0]; exact (Kk.Bel.refl w).alloc _)
  have R0 := Lib.hid (show W0.rangeAt w.heap.size 0 [.slice A n c, .int .u64 p0, .int .u64 p1, .int .u64 p2, .int .u64 p3] by rw [← hW0]; exact rngB (C := [.slice A n c, .int .u64 p0, .int .u64 p1, .int .u64 p2, .int .u64 p3]) (Kk.Blk.new w _ 26))
  obtain ⟨p, hp⟩ : ∃ p, w.heap.size = p := ⟨_, rfl⟩
  rw [hp] at R0
  have c0 : W0.cell? ⟨p, 0, none⟩ = some (.slice A n c) := R0.out 0 _ rfl
  have PSU := Lib.hid (fun V (h : Kk.Bel W0 V) => pools_su (v := .slice A n c) (ps := [p0, p1, p2, p3]) (rng_bel R0.out h) rfl)
  have ZS := Lib.hid (fun V (h : Kk.Bel W0 V) => (hi.bel B0.out).bel h)
  have CK := Lib.hid (fun V (h : Kk.Bel W0 V) => checkC A n c zs p0 p1 p2 p3 V (ZS.out V h) hn hz hps)
  have HZ := Lib.hid hz
  have HPS := Lib.hid hps
  have HP := Lib.hid hp
  have HW := Lib.hid hW0
  have HLEN := Lib.hid hi.len
  have uB := Try.underlying26
  have iB := Lib.hid (show (Try.prog.info? 26).map (·.size) = some ([.slice A n c, .int .u64 p0, .int .u64 p1, .int .u64 p2, .int .u64 p3] : List Value).length from info_bank)
  clear hi hz hps hp hW0
  obtain ⟨q, hq⟩ : ∃ q, chk zs [p0, p1, p2, p3] = q := ⟨_, rfl⟩
  rw [hq] at CK
  rw [hq]
  have HQ := Lib.hid hq
  clear hq
  by_cases hq0 : q = 0
  · subst hq0
    rw [okI_0]
    obtain ⟨s, hs⟩ : ∃ s, zs.sum + List.sum [p0, p1, p2, p3] = s := ⟨_, rfl⟩
    have hle := (chk_ok HQ.out).2.2
    rw [hs] at hle
    have HS := Lib.hid hs
    rw [hs]
    have e5 := Fix.amt_of (P := s) (by omega)
    have E5 := Lib.hid e5
    clear hs e5 hle
    go_enter Try.func12, Try.ntmps12
    go_upto_region 1 with fail
    rw [HW.out, HP.out]
    go_wp2_with ((with_reducible refine wpList_load_mid ?_ 26 (.tmp 1) ?_ p 0 ?_ [.slice A n c, .int .u64 p0, .int .u64 p1, .int .u64 p2, .int .u64 p3] _ R0.out uB ?_ iB.out ?_); rfl; rfl; rfl; rfl)
    refine (CK.out _ (Kk.Bel.refl _)).mono ?_
    rintro e w1 ⟨rfl, k1⟩
    have B1 := Lib.hid k1
    clear CK k1
    have CS := Lib.hid (fun (V : World) (g : Nat) (hb : Kk.Bel w1 V) (hr : V.rangeAt g 0 [.slice A n c, .slice (some ⟨p, 1, none⟩) 4 4]) =>
      sum_ g 2 2 [⟨A, n, c, zs⟩, ⟨some ⟨p, 1, none⟩, 4, 4, [p0, p1, p2, p3]⟩] V rfl hr (by
        intro x hx
        rcases List.mem_cons.1 hx with rfl | hx
        · exact ⟨ZS.out V (B1.out.trans hb), HZ.out, by show n ≤ _; omega⟩
        · obtain rfl := List.mem_singleton.1 hx
          exact ⟨PSU.out V (B1.out.trans hb), HPS.out, by show (4 : Nat) ≤ _; omega⟩) (by omega))
    rw [show total [⟨A, n, c, zs⟩, ⟨some ⟨p, 1, none⟩, 4, 4, [p0, p1, p2, p3]⟩] = s by rw [← HS.out]; simp [total], E5.out.1, E5.out.2] at CS
    go_upto_region 4 with fail
    refine wp_region_held_drew (S := fun V => Kk.Bel w1 V) (by kernel_rfl) (Kk.Bel.refl _).drew (fun hS0 => ?_)
    obtain ⟨w6, hw6⟩ : ∃ w6, World.drew w1 = w6 := ⟨_, rfl⟩
    rw [hw6] at hS0 ⊢
    clear hw6
    refine wpAnyH_take (i := 0) (oi := { dst := some 10, op := .fieldAddr 26 (.tmp 1) 0, type := 0, pos := "bank.go:39", after := #[], guard := none }) (v := .pointer (some ⟨p, 0, none⟩)) rfl (by kernel_rfl) (by kernel_rfl) (by kernel_rfl) (fun _ _ _ h => h) (Or.inl ⟨by rfl, by intro w hSw; clear hSw; go_simp⟩) hS0 ?_
    try simp only [Act.put, List.setIfInBounds_toArray, List.set_cons_zero, List.set_cons_succ]
    refine wpAnyH_take (i := 1) (oi := { dst := some 11, op := .load 22 (.tmp 10), type := 22, pos := "bank.go:39", after := #[{ on := 0, ground := .data }], guard := none }) (v := .slice A n c) rfl (by kernel_rfl) (by kernel_rfl) (by kernel_rfl) (fun _ _ _ h => h) (Or.inl ⟨by rfl, by intro w h; have hcell := (cell_bel (cell_bel c0 B1.out) h); clear h; go_simp⟩) hS0 ?_
    try simp only [Act.put, List.setIfInBounds_toArray, List.set_cons_zero, List.set_cons_succ]
    refine wpAnyH_take (i := 2) (oi := { dst := some 12, op := .fieldAddr 26 (.tmp 1) 1, type := 0, pos := "bank.go:39", after := #[], guard := none }) (v := .pointer (some ⟨p, 1, none⟩)) rfl (by kernel_rfl) (by kernel_rfl) (by kernel_rfl) (fun _ _ _ h => h) (Or.inl ⟨by rfl, by intro w hSw; clear hSw; go_simp⟩) hS0 ?_
    try simp only [Act.put, List.setIfInBounds_toArray, List.set_cons_zero, List.set_cons_succ]
    refine wpAnyH_take (i := 3) (oi := { dst := some 13, op := .slice 24 (.tmp 12) none none none, type := 22, pos := "bank.go:39", after := #[{ on := 2, ground := .data }], guard := none }) (v := .slice (some ⟨p, 1, none⟩) 4 4) rfl (by kernel_rfl) (by kernel_rfl) (by kernel_rfl) (fun _ _ _ h => h) (Or.inl ⟨by rfl, by intro w hSw; clear hSw; go_simp⟩) hS0 ?_
    try simp only [Act.put, List.setIfInBounds_toArray, List.set_cons_zero, List.set_cons_succ]
    refine wpAnyH_ready (rs := [4]) (by kernel_rfl) (by simp) ?_
    refine AllReadyH.cons (o := { dst := some 14, op := .buildSlice 110 2 #[(0, .tmp 11), (1, .tmp 13)], type := 110, pos := "bank.go:39", after := #[{ on := 1, ground := .data }, { on := 3, ground := .data }], guard := none }) rfl (fun K hK => ?_) AllReadyH.nil
    go_simp
    refine hK.out _ _ (hS0.alloc _) (fun hS1 => ?_)
    clear hK K
    try simp only [Act.put, List.setIfInBounds_toArray, List.set_cons_zero, List.set_cons_succ]
    obtain ⟨g, hg⟩ : ∃ g, (World.heap w6).size = g := ⟨_, rfl⟩
    have R1 : (World.alloc w6 (.cells #[.slice A n c, .slice (some ⟨p, 1, none⟩) 4 4] 22)).rangeAt g 0 [.slice A n c, .slice (some ⟨p, 1, none⟩) 4 4] := by rw [← hg]; exact rngB (Kk.Blk.new w6 _ 22)
    obtain ⟨v1, hv⟩ : ∃ v, World.alloc w6 (.cells #[.slice A n c, .slice (some ⟨p, 1, none⟩) 4 4] 22) = v := ⟨_, rfl⟩
    rw [hv] at R1 hS1 ⊢
    rw [hg]
    clear hv hg
    refine wpAnyH_ready (rs := [5]) (by kernel_rfl) (by simp) ?_
    refine AllReadyH.cons (o := { dst := some 15, op := .call { callee := .value (.func 43), args := #[.tmp 14], argTypes := #[110] }, type := 35, pos := "bank.go:39", after := #[{ on := 4, ground := .data }], guard := none }) rfl (fun K hK => ?_) AllReadyH.nil
    go_simp
    refine (CS.out v1 g hS1 R1).mono ?_
    rintro e v2 ⟨rfl, k2⟩
    go_wp2_with fail
    refine hK.out _ _ (hS1.trans k2) (fun hS2 => ?_)
    clear hK K
    try simp only [Act.put, List.setIfInBounds_toArray, List.set_cons_zero, List.set_cons_succ]
    refine wpAnyH_take (i := 6) (oi := { dst := some 16, op := .extract (.tmp 15) 0, type := 23, pos := "bank.go:39", after := #[{ on := 5, ground := .data }], guard := none }) (v := .int .u64 s) rfl (by kernel_rfl) (by kernel_rfl) (by kernel_rfl) (fun _ _ _ h => h) (Or.inl ⟨by rfl, by intro w hSw; clear hSw; go_simp⟩) hS2 ?_
    try simp only [Act.put, List.setIfInBounds_toArray, List.set_cons_zero, List.set_cons_succ]
    refine wpAnyH_take (i := 7) (oi := { dst := some 17, op := .extract (.tmp 15) 1, type := 30, pos := "bank.go:39", after := #[{ on := 5, ground := .data }], guard := none }) (v := .int .i64 0) rfl (by kernel_rfl) (by kernel_rfl) (by kernel_rfl) (fun _ _ _ h => h) (Or.inl ⟨by rfl, by intro w hSw; clear hSw; go_simp⟩) hS2 ?_
    try simp only [Act.put, List.setIfInBounds_toArray, List.set_cons_zero, List.set_cons_succ]
    refine wpAnyH_take (i := 8) (oi := { dst := some 2, op := .assign (.tmp 16), type := 23, pos := "bank.go:39", after := #[{ on := 6, ground := .data }, { on := 5, ground := .chain }, { on := 0, ground := .phase }, { on := 1, ground := .phase }, { on := 2, ground := .phase }, { on := 3, ground := .phase }, { on := 4, ground := .phase }, { on := 5, ground := .phase }, { on := 6, ground := .phase }, { on := 7, ground := .phase }], guard := none }) (v := .int .u64 s) rfl (by kernel_rfl) (by kernel_rfl) (by kernel_rfl) (fun _ _ _ h => h) (Or.inl ⟨by rfl, by intro w hSw; clear hSw; go_simp⟩) hS2 ?_
    try simp only [Act.put, List.setIfInBounds_toArray, List.set_cons_zero, List.set_cons_succ]
    refine wpAnyH_take (i := 9) (oi := { dst := some 3, op := .assign (.tmp 17), type := 30, pos := "bank.go:39", after := #[{ on := 7, ground := .data }, { on := 8, ground := .chain }, { on := 0, ground := .phase }, { on := 1, ground := .phase }, { on := 2, ground := .phase }, { on := 3, ground := .phase }, { on := 4, ground := .phase }, { on := 5, ground := .phase }, { on := 6, ground := .phase }, { on := 7, ground := .phase }, { on := 8, ground := .phase }], guard := none }) (v := .int .i64 0) rfl (by kernel_rfl) (by kernel_rfl) (by kernel_rfl) (fun _ _ _ h => h) (Or.inl ⟨by rfl, by intro w hSw; clear hSw; go_simp⟩) hS2 ?_
    try simp only [Act.put, List.setIfInBounds_toArray, List.set_cons_zero, List.set_cons_succ]
    refine wpAnyH_done (by kernel_rfl) ?_ _
    go_wp2_with fail
    go_ret2
    exact ⟨rfl, B0.out.trans (B1.out.trans hS2)⟩
  · rw [okI_no _ hq0]
    have hq1 : (q == 0) = false := by simpa using hq0
    go_enter Try.func12, Try.ntmps12
    go_upto_region 1 with fail
    rw [HW.out, HP.out]
    go_wp2_with ((with_reducible refine wpList_load_mid ?_ 26 (.tmp 1) ?_ p 0 ?_ [.slice A n c, .int .u64 p0, .int .u64 p1, .int .u64 p2, .int .u64 p3] _ R0.out uB ?_ iB.out ?_); rfl; rfl; rfl; rfl)
    refine (CK.out _ (Kk.Bel.refl _)).mono ?_
    rintro e w1 ⟨rfl, k1⟩
    have B1 := Lib.hid k1
    clear CK k1
    go_wp2
    go_ret2
    exact ⟨rfl, B0.out.trans B1.out⟩

set_option maxRecDepth 10000 in
set_option maxHeartbeats 1000000 in
theorem total_ (A : Option Addr) (n c : Nat) (zs : List Int) (p0 p1 p2 p3 : Int) (w : World) (hi : SU w A n c zs) (hn : n ≤ 1000000000) (hz : Words zs) (hps : Words [p0, p1, p2, p3]) :
    Calls Try.prog 14 #[.agg #[.slice A n c, .int .u64 p0, .int .u64 p1, .int .u64 p2, .int .u64 p3]] w fun e w' => e = .returned (.tuple #[.int .u64 (okI (chk zs [p0, p1, p2, p3]) zs.sum), .int .i64 (chk zs [p0, p1, p2, p3])]) ∧ Kk.Bel w w' := by
  obtain ⟨W0, hW0⟩ : ∃ W0, w.alloc (.cells #[.slice A n c, .int .u64 p0, .int .u64 p1, .int .u64 p2, .int .u64 p3] 26) = W0 := ⟨_, rfl⟩
  have B0 := Lib.hid (show Kk.Bel w W0 by rw [← hW0]; exact (Kk.Bel.refl w).alloc _)
  have R0 := Lib.hid (show W0.rangeAt w.heap.size 0 [.slice A n c, .int .u64 p0, .int .u64 p1, .int .u64 p2, .int .u64 p3] by rw [← hW0]; exact rngB (C := [.slice A n c, .int .u64 p0, .int .u64 p1, .int .u64 p2, .int .u64 p3]) (Kk.Blk.new w _ 26))
  obtain ⟨p, hp⟩ : ∃ p, w.heap.size = p := ⟨_, rfl⟩
  rw [hp] at R0
  have c0 : W0.cell? ⟨p, 0, none⟩ = some (.slice A n c) := R0.out 0 _ rfl
  have PSU := Lib.hid (fun V (h : Kk.Bel W0 V) => pools_su (v := .slice A n c) (ps := [p0, p1, p2, p3]) (rng_bel R0.out h) rfl)
  have ZS := Lib.hid (fun V (h : Kk.Bel W0 V) => (hi.bel B0.out).bel h)
  have CK := Lib.hid (fun V (h : Kk.Bel W0 V) => checkC A n c zs p0 p1 p2 p3 V (ZS.out V h) hn hz hps)
  have HZ := Lib.hid hz
  have HPS := Lib.hid hps
  have HP := Lib.hid hp
  have HW := Lib.hid hW0
  have HLEN := Lib.hid hi.len
  have uB := Try.underlying26
  have iB := Lib.hid (show (Try.prog.info? 26).map (·.size) = some ([.slice A n c, .int .u64 p0, .int .u64 p1, .int .u64 p2, .int .u64 p3] : List Value).length from info_bank)
  clear hi hz hps hp hW0
  obtain ⟨q, hq⟩ : ∃ q, chk zs [p0, p1, p2, p3] = q := ⟨_, rfl⟩
  rw [hq] at CK
  rw [hq]
  have HQ := Lib.hid hq
  clear hq
  by_cases hq0 : q = 0
  · subst hq0
    rw [okI_0]
    have hps0 := sum0 HPS.out
    have hle := (chk_ok HQ.out).2.2
    obtain ⟨s, hs⟩ : ∃ s, zs.sum = s := ⟨_, rfl⟩
    rw [hs] at hle
    have HS := Lib.hid hs
    rw [hs]
    have e5 := Fix.amt_of (P := s) (by omega)
    have E5 := Lib.hid e5
    clear hs e5 hle hps0
    go_enter Try.func14, Try.ntmps14
    go_upto_region 1 with fail
    rw [HW.out, HP.out]
    go_wp2_with ((with_reducible refine wpList_load_mid ?_ 26 (.tmp 1) ?_ p 0 ?_ [.slice A n c, .int .u64 p0, .int .u64 p1, .int .u64 p2, .int .u64 p3] _ R0.out uB ?_ iB.out ?_); rfl; rfl; rfl; rfl)
    refine (CK.out _ (Kk.Bel.refl _)).mono ?_
    rintro e w1 ⟨rfl, k1⟩
    have B1 := Lib.hid k1
    clear CK k1
    have CS := Lib.hid (fun (V : World) (g : Nat) (hb : Kk.Bel w1 V) (hr : V.rangeAt g 0 [.slice A n c]) =>
      sum_ g 1 1 [⟨A, n, c, zs⟩] V rfl hr (by
        intro x hx
        obtain rfl := List.mem_singleton.1 hx
        exact ⟨ZS.out V (B1.out.trans hb), HZ.out, by show n ≤ _; omega⟩) (by omega))
    rw [show total [⟨A, n, c, zs⟩] = s by rw [← HS.out]; simp [total], E5.out.1, E5.out.2] at CS
    have c1 := cell_bel c0 B1.out
    have L1 := Lib.hid (show (w1.alloc (.cells #[.slice A n c] 22)).rangeAt w1.heap.size 0 [.slice A n c] from rngB (C := [.slice A n c]) (Kk.Blk.new w1 _ 22))
    go_wp2_with fail
    refine (CS.out _ _ ((Kk.Bel.refl w1).alloc _) L1.out).mono ?_
    rintro e w2 ⟨rfl, k2⟩
    go_wp2
    go_ret2
    exact ⟨rfl, B0.out.trans (B1.out.trans (((Kk.Bel.refl w1).alloc _).trans k2))⟩
  · rw [okI_no _ hq0]
    have hq1 : (q == 0) = false := by simpa using hq0
    go_enter Try.func14, Try.ntmps14
    go_upto_region 1 with fail
    rw [HW.out, HP.out]
    go_wp2_with ((with_reducible refine wpList_load_mid ?_ 26 (.tmp 1) ?_ p 0 ?_ [.slice A n c, .int .u64 p0, .int .u64 p1, .int .u64 p2, .int .u64 p3] _ R0.out uB ?_ iB.out ?_); rfl; rfl; rfl; rfl)
    refine (CK.out _ (Kk.Bel.refl _)).mono ?_
    rintro e w1 ⟨rfl, k1⟩
    have B1 := Lib.hid k1
    clear CK k1
    go_wp2
    go_ret2
    exact ⟨rfl, B0.out.trans B1.out⟩

theorem accIn_no (b : Nat) (A : Option Addr) (n c : Nat) (k : Int) (w : World) (hc : w.cell? ⟨b, 0, none⟩ = some (.slice A n c)) (h : k < 0 ∨ (n : Int) ≤ k) :
    Calls Try.prog 46 #[.int .i64 k, .pointer (some ⟨b, 0, none⟩)] w fun e w' => e = .returned (.tuple #[.pointer none, .int .i64 10]) ∧ w = w' := by
  by_cases h0 : k < 0
  · go_enter Try.func46, Try.ntmps46
    go_wp2
    go_ret2
    exact ⟨rfl, rfl⟩
  · have h1 : (n : Int) ≤ k := by omega
    go_enter Try.func46, Try.ntmps46
    go_wp2
    go_ret2
    exact ⟨rfl, rfl⟩
theorem accIn (b : Nat) (g o n c k : Nat) (w : World) (hc : w.cell? ⟨b, 0, none⟩ = some (.slice (some ⟨g, o, none⟩) n c)) (h : k < n) :
    Calls Try.prog 46 #[.int .i64 k, .pointer (some ⟨b, 0, none⟩)] w fun e w' => e = .returned (.tuple #[.pointer (some ⟨g, o + k, none⟩), .int .i64 0]) ∧ w = w' := by
  have h0 : ¬ (k : Int) < 0 := by omega
  have h1 : ¬ (n : Int) ≤ k := by omega
  have h2 : (0 : Int) ≤ k ∧ (k : Int) < n := ⟨by omega, by omega⟩
  go_enter Try.func46, Try.ntmps46
  go_wp2
  go_ret2
  exact ⟨rfl, rfl⟩
theorem poolIn_no (b : Nat) (k : Int) (w : World) (h : k < 0 ∨ 4 ≤ k) :
    Calls Try.prog 154 #[.int .i64 k, .pointer (some ⟨b, 0, none⟩)] w fun e w' => e = .returned (.tuple #[.pointer none, .int .i64 3]) ∧ w = w' := by
  by_cases h0 : k < 0
  · go_enter Try.func154, Try.ntmps154
    go_wp2
    go_ret2
    exact ⟨rfl, rfl⟩
  · have h1 : (4 : Int) ≤ k := by omega
    go_enter Try.func154, Try.ntmps154
    go_wp2
    go_ret2
    exact ⟨rfl, rfl⟩
theorem poolIn (b k : Nat) (w : World) (h : k < 4) :
    Calls Try.prog 154 #[.int .i64 k, .pointer (some ⟨b, 0, none⟩)] w fun e w' => e = .returned (.tuple #[.pointer (some ⟨b, 1 + k, none⟩), .int .i64 0]) ∧ w = w' := by
  have h0 : ¬ (k : Int) < 0 := by omega
  have h1 : ¬ (4 : Int) ≤ k := by omega
  have h2 : (0 : Int) ≤ k ∧ (k : Int) < 4 := ⟨by omega, by omega⟩
  go_enter Try.func154, Try.ntmps154
  go_wp2
  go_ret2
  exact ⟨rfl, rfl⟩

set_option maxRecDepth 10000 in
set_option maxHeartbeats 1000000 in
theorem have_ (k : Int) (A : Option Addr) (n c : Nat) (zs : List Int) (p0 p1 p2 p3 : Int) (w : World) (hi : SU w A n c zs) (hn : n ≤ 1000000000) (hz : Words zs) (hps : Words [p0, p1, p2, p3]) :
    Calls Try.prog 16 #[.agg #[.slice A n c, .int .u64 p0, .int .u64 p1, .int .u64 p2, .int .u64 p3], .int .i64 k] w fun e w' => e = .returned (.tuple #[.int .u64 (okI (havE zs [p0, p1, p2, p3] k) (zs.getD k.toNat 0)), .int .i64 (havE zs [p0, p1, p2, p3] k)]) ∧ Kk.Bel w w' := by
  obtain ⟨W0, hW0⟩ : ∃ W0, w.alloc (.cells #[.slice A n c, .int .u64 p0, .int .u64 p1, .int .u64 p2, .int .u64 p3] 26) = W0 := ⟨_, rfl⟩
  have B0 := Lib.hid (show Kk.Bel w W0 by rw [← hW0]; exact (Kk.Bel.refl w).alloc _)
  have R0 := Lib.hid (show W0.rangeAt w.heap.size 0 [.slice A n c, .int .u64 p0, .int .u64 p1, .int .u64 p2, .int .u64 p3] by rw [← hW0]; exact rngB (C := [.slice A n c, .int .u64 p0, .int .u64 p1, .int .u64 p2, .int .u64 p3]) (Kk.Blk.new w _ 26))
  obtain ⟨p, hp⟩ : ∃ p, w.heap.size = p := ⟨_, rfl⟩
  rw [hp] at R0
  have c0 : W0.cell? ⟨p, 0, none⟩ = some (.slice A n c) := R0.out 0 _ rfl
  have PSU := Lib.hid (fun V (h : Kk.Bel W0 V) => pools_su (v := .slice A n c) (ps := [p0, p1, p2, p3]) (rng_bel R0.out h) rfl)
  have ZS := Lib.hid (fun V (h : Kk.Bel W0 V) => (hi.bel B0.out).bel h)
  have CK := Lib.hid (fun V (h : Kk.Bel W0 V) => checkC A n c zs p0 p1 p2 p3 V (ZS.out V h) hn hz hps)
  have HZ := Lib.hid hz
  have HPS := Lib.hid hps
  have HP := Lib.hid hp
  have HW := Lib.hid hW0
  have HLEN := Lib.hid hi.len
  have uB := Try.underlying26
  have iB := Lib.hid (show (Try.prog.info? 26).map (·.size) = some ([.slice A n c, .int .u64 p0, .int .u64 p1, .int .u64 p2, .int .u64 p3] : List Value).length from info_bank)
  clear hi hz hps hp hW0
  obtain ⟨q, hq⟩ : ∃ q, chk zs [p0, p1, p2, p3] = q := ⟨_, rfl⟩
  rw [hq] at CK
  have HQ := Lib.hid hq
  clear hq
  by_cases hq0 : q = 0
  · subst hq0
    by_cases hk : k < 0 ∨ (n : Int) ≤ k
    · have HV := Lib.hid (show havE zs [p0, p1, p2, p3] k = 10 by unfold havE; rw [if_pos HQ.out, if_pos (by rw [HLEN.out]; exact hk)])
      rw [HV.out, okI_no _ (by decide)]
      go_enter Try.func16, Try.ntmps16
      go_upto_region 1 with fail
      rw [HW.out, HP.out]
      go_wp2_with ((with_reducible refine wpList_load_mid ?_ 26 (.tmp 2) ?_ p 0 ?_ [.slice A n c, .int .u64 p0, .int .u64 p1, .int .u64 p2, .int .u64 p3] _ R0.out uB ?_ iB.out ?_); rfl; rfl; rfl; rfl)
      refine (CK.out _ (Kk.Bel.refl _)).mono ?_
      rintro e w1 ⟨rfl, k1⟩
      have B1 := Lib.hid k1
      clear CK k1
      have c1 := cell_bel c0 B1.out
      have CI := Lib.hid (accIn_no p A n c k w1 c1 hk)
      clear hk
      go_wp2_with fail
      refine CI.out.mono ?_
      rintro e w2 ⟨rfl, rfl⟩
      go_wp2
      go_ret2
      exact ⟨rfl, B0.out.trans B1.out⟩
    · obtain ⟨j, rfl⟩ := Int.eq_ofNat_of_zero_le (a := k) (by omega)
      have hj : j < n := by omega
      have HV := Lib.hid (show havE zs [p0, p1, p2, p3] j = 0 by unfold havE; rw [if_pos HQ.out, if_neg (by rw [HLEN.out]; exact hk)])
      rw [HV.out, okI_0]
      rw [Int.toNat_natCast]
      obtain ⟨g, o, rfl, hg, hcell⟩ := (ZS.out W0 (Kk.Bel.refl _)).ints.cell hj
      have HCE := Lib.hid hcell
      clear hcell
      go_enter Try.func16, Try.ntmps16
      go_upto_region 1 with fail
      rw [HW.out, HP.out]
      go_wp2_with ((with_reducible refine wpList_load_mid ?_ 26 (.tmp 2) ?_ p 0 ?_ [.slice (some ⟨g, o, none⟩) n c, .int .u64 p0, .int .u64 p1, .int .u64 p2, .int .u64 p3] _ R0.out uB ?_ iB.out ?_); rfl; rfl; rfl; rfl)
      refine (CK.out _ (Kk.Bel.refl _)).mono ?_
      rintro e w1 ⟨rfl, k1⟩
      have B1 := Lib.hid k1
      clear CK k1
      have c1 := cell_bel c0 B1.out
      have CI := Lib.hid (accIn p g o n c j w1 c1 hj)
      have hcell := cell_bel HCE.out B1.out
      clear hk
      go_wp2_with fail
      refine CI.out.mono ?_
      rintro e w2 ⟨rfl, rfl⟩
      go_wp2
      go_ret2
      exact ⟨rfl, B0.out.trans B1.out⟩
  · rw [show havE zs [p0, p1, p2, p3] k = q by unfold havE; rw [if_neg (by rw [HQ.out]; exact hq0), HQ.out], okI_no _ hq0]
    have hq1 : (q == 0) = false := by simpa using hq0
    go_enter Try.func16, Try.ntmps16
    go_upto_region 1 with fail
    rw [HW.out, HP.out]
    go_wp2_with ((with_reducible refine wpList_load_mid ?_ 26 (.tmp 2) ?_ p 0 ?_ [.slice A n c, .int .u64 p0, .int .u64 p1, .int .u64 p2, .int .u64 p3] _ R0.out uB ?_ iB.out ?_); rfl; rfl; rfl; rfl)
    refine (CK.out _ (Kk.Bel.refl _)).mono ?_
    rintro e w1 ⟨rfl, k1⟩
    have B1 := Lib.hid k1
    clear CK k1
    go_wp2
    go_ret2
    exact ⟨rfl, B0.out.trans B1.out⟩
end Bk
end Go.Proofs.Ytgdaojbflokmoaa
end

section
/-
  What bank.New answers; the deferred closure of bank.transfer. Conditions: the amounts are words.
-/
namespace Go.Proofs.Ytgdaojbflokmoaa
open Go.RowKit Go.Shelf
set_option linter.unusedVariables false
namespace Bk
open Pm

theorem undo_ok (b q : Nat) (w : World) (hc : w.cell? ⟨b, 0, none⟩ = some (.int .i64 0)) :
    CallsD Try.prog 110 #[.pointer (some ⟨b, 0, none⟩), .pointer (some ⟨q, 0, none⟩)] .returning w fun e u' w' => u' = .returning ∧ e = .returned (.tuple #[]) ∧ w = w' := by
  go_enter_d Try.func110, Try.ntmps110
  go_wp2
  go_end0
  exact ⟨rfl, rfl⟩
set_option maxRecDepth 10000 in
theorem undo_no (b q : Nat) (x : Int) (C : List Value) (w : World) (hc : w.cell? ⟨b, 0, none⟩ = some (.int .i64 x)) (hx : ¬ x = 0) (hq : Kk.Blk w q C.toArray 26) (hC : C.length = 5) :
    CallsD Try.prog 110 #[.pointer (some ⟨b, 0, none⟩), .pointer (some ⟨q, 0, none⟩)] .returning w fun e u' w' => u' = .returning ∧ e = .returned (.tuple #[]) ∧ w.setCells q 0 [.slice none 0 0, .int .u64 0, .int .u64 0, .int .u64 0, .int .u64 0] = w' := by
  have hth := Lib.hid (show w.there q 0 5 from bthere hq 0 5 (by simp [hC]))
  have hin := Lib.hid (show (Try.prog.info? 26).map (·.size) = some (#[.slice none 0 0, .int .u64 0, .int .u64 0, .int .u64 0, .int .u64 0] : Array Value).size from info_bank)
  have ho := Lib.hid (one5 (v := .slice none 0 0) (a := 0) (b := 0) (c := 0) (d := 0) rfl)
  have hx1 : (x != 0) = true := by simpa using hx
  clear hx hq
  go_enter_d Try.func110, Try.ntmps110
  go_wp2_with ((with_reducible refine wpList_store_mid ?_ 26 (.tmp 1) (.tmp 4) ?_ q 0 #[.slice none 0 0, .int .u64 0, .int .u64 0, .int .u64 0, .int .u64 0] ?_ ?_ ?_ hin.out ho.out ?_); rfl; rfl; rfl; rfl; exact hth.out)
  go_end0
  exact ⟨rfl, rfl⟩

end Bk
end Go.Proofs.Ytgdaojbflokmoaa
end

section
/-
  What bank.transfer answers, for the four kinds of places. Conditions: the amounts are words.
-/
namespace Go.Proofs.Ytgdaojbflokmoaa
open Go.RowKit Go.Shelf
set_option linter.unusedVariables false
namespace Bk
open Pm

/-- What is wrong with a place. -/
def plE (zs : List Int) (pool : Bool) (k : Int) : Int := if pool then (if k < 0 ∨ 4 ≤ k then 3 else 0) else (if k < 0 ∨ (zs.length : Int) ≤ k then 10 else 0)
def bal (zs ps : List Int) (pool : Bool) (k : Int) : Int := if pool then ps.getD k.toNat 0 else zs.getD k.toNat 0
def putZ (zs : List Int) (pool : Bool) (k v : Int) : List Int := if pool then zs else zs.set k.toNat v
def putP (ps : List Int) (pool : Bool) (k v : Int) : List Int := if pool then ps.set k.toNat v else ps
/-- What is wrong with a move. -/
def xE (zs ps : List Int) (pf pt : Bool) (f t n least : Int) : Int :=
  if chk zs ps = 0 then (if plE zs pf f = 0 then (if plE zs pt t = 0 then (if (pf = pt ∧ f = t) ∨ (pf = true ∧ f = 2) ∨ n < least then 2 else if bal zs ps pf f < n then 13 else 0) else plE zs pt t) else plE zs pf f) else chk zs ps
def xZ' (zs ps : List Int) (pf pt : Bool) (f t n : Int) : List Int := putZ (putZ zs pf f (bal zs ps pf f - n)) pt t (bal zs ps pt t + n)
def xP' (zs ps : List Int) (pf pt : Bool) (f t n : Int) : List Int := putP (putP ps pf f (bal zs ps pf f - n)) pt t (bal zs ps pt t + n)
def xZ (zs ps : List Int) (pf pt : Bool) (f t n least : Int) : List Int := okZ (xE zs ps pf pt f t n least) (xZ' zs ps pf pt f t n)
def xP (zs ps : List Int) (pf pt : Bool) (f t n least : Int) : List Int := okP (xE zs ps pf pt f t n least) (xP' zs ps pf pt f t n)
theorem xE_chk {zs ps : List Int} {pf pt : Bool} {f t n least q : Int} (h : chk zs ps = q) (hq : ¬ q = 0) : xE zs ps pf pt f t n least = q := by unfold xE; rw [h, if_neg hq]
theorem xZ_no {zs ps : List Int} {pf pt : Bool} {f t n least : Int} (h : ¬ xE zs ps pf pt f t n least = 0) : xZ zs ps pf pt f t n least = [] := okZ_no _ h
theorem xP_no {zs ps : List Int} {pf pt : Bool} {f t n least : Int} (h : ¬ xE zs ps pf pt f t n least = 0) : xP zs ps pf pt f t n least = [0, 0, 0, 0] := okP_no _ h
theorem xZ_chk {zs ps : List Int} {pf pt : Bool} {f t n least q : Int} (h : chk zs ps = q) (hq : ¬ q = 0) : xZ zs ps pf pt f t n least = [] := xZ_no (by rw [xE_chk h hq]; exact hq)
theorem xP_chk {zs ps : List Int} {pf pt : Bool} {f t n least q : Int} (h : chk zs ps = q) (hq : ¬ q = 0) : xP zs ps pf pt f t n least = [0, 0, 0, 0] := xP_no (by rw [xE_chk h hq]; exact hq)
theorem cell_set {w : World} {b : Nat} {x : Value} {t : TypeId} (h : Kk.Blk w b [x].toArray t) (v : Value) : (w.setCell ⟨b, 0, none⟩ v).cell? ⟨b, 0, none⟩ = some v := (h.set 0 v).cell 0 rfl
theorem plA_no {zs : List Int} {f : Int} (h : ¬ plE zs false f = 0) : plE zs false f = 10 ∧ (f < 0 ∨ (zs.length : Int) ≤ f) := by
  unfold plE at h ⊢
  rw [if_neg (by decide)] at h ⊢
  split at h
  · rename_i h'; rw [if_pos h']; exact ⟨rfl, h'⟩
  · exact absurd rfl h
theorem plP_no {zs : List Int} {f : Int} (h : ¬ plE zs true f = 0) : plE zs true f = 3 ∧ (f < 0 ∨ 4 ≤ f) := by
  unfold plE at h ⊢
  rw [if_pos rfl] at h ⊢
  split at h
  · rename_i h'; rw [if_pos h']; exact ⟨rfl, h'⟩
  · exact absurd rfl h
theorem plA_ok {zs : List Int} {f : Int} (h : plE zs false f = 0) : ∃ j : Nat, f = j ∧ j < zs.length := by
  unfold plE at h
  rw [if_neg (by decide)] at h
  split at h
  · cases h
  · exact ⟨f.toNat, by omega, by omega⟩
theorem plP_ok {zs : List Int} {f : Int} (h : plE zs true f = 0) : ∃ j : Nat, f = j ∧ j < 4 := by
  unfold plE at h
  rw [if_pos rfl] at h
  split at h
  · cases h
  · exact ⟨f.toNat, by omega, by omega⟩

theorem accIn0 (b g n c k : Nat) (w : World) (hc : w.cell? ⟨b, 0, none⟩ = some (.slice (some ⟨g, 0, none⟩) n c)) (h : k < n) :
    Calls Try.prog 46 #[.int .i64 k, .pointer (some ⟨b, 0, none⟩)] w fun e w' => e = .returned (.tuple #[.pointer (some ⟨g, k, none⟩), .int .i64 0]) ∧ w = w' := by
  have := accIn b g 0 n c k w hc h
  rwa [Nat.zero_add] at this
/-- The memory behind the copy: the bank's cells at a, the error behind it, the accounts' row g. -/
structure St (w : World) (a g cv : Nat) (zs : List Int) (Y : List Value) (x : Int) (W : World) : Prop where
  bel : Kk.Bel w W
  q : Kk.Blk W a Y.toArray 26
  e : Kk.Blk W (a + 1) [.int .i64 x].toArray 30
  o : W.ownsRow w.heap.size 23 1 (.slice (some ⟨g, 0, none⟩) zs.length cv) zs.length (zs.map (Value.int .u64))
  le : w.heap.size ≤ a
theorem St.ga {w : World} {a g cv : Nat} {zs : List Int} {Y : List Value} {x : Int} {W : World} (h : St w a g cv zs Y x W) : g ≠ a ∧ g ≠ a + 1 := by
  refine ⟨?_, ?_⟩
  · rintro rfl; exact h.q.not_row (by decide) h.o rfl
  · rintro rfl; exact h.e.not_row (by decide) h.o rfl
theorem St.err {w : World} {a g cv : Nat} {zs : List Int} {Y : List Value} {x : Int} {W : World} (h : St w a g cv zs Y x W) (y : Int) : St w a g cv zs Y y (W.setCell ⟨a + 1, 0, none⟩ (.int .i64 y)) :=
  ⟨h.bel.set (by show _ ≤ a + 1; have := h.le; omega) _, h.q.other (by omega) 0 _, h.e.set 0 _, Kk.owns_set h.o (by intro e; exact h.ga.2 (Option.some.inj e)) 0 _, h.le⟩
theorem St.kept {w : World} {a g cv : Nat} {zs : List Int} {Y : List Value} {x : Int} {W V : World} (h : St w a g cv zs Y x W) (k : Kk.Bel W V) : St w a g cv zs Y x V :=
  ⟨h.bel.trans k, h.q.bel k, h.e.bel k, Kk.owns_bel h.o k, h.le⟩
theorem St.gl {w : World} {a g cv : Nat} {zs : List Int} {Y : List Value} {x : Int} {W : World} (h : St w a g cv zs Y x W) : w.heap.size ≤ g := (h.o.lt g rfl).1
theorem St.setZ {w : World} {a g cv : Nat} {zs : List Int} {Y : List Value} {x : Int} {W : World} (h : St w a g cv zs Y x W) (k : Nat) (v : Int) : St w a g cv (zs.set k v) Y x (W.setCell ⟨g, k, none⟩ (.int .u64 v)) := by
  refine ⟨h.bel.set (by show _ ≤ g; exact h.gl) _, h.q.other (fun e => h.ga.1 e.symm) k _, h.e.other (fun e => h.ga.2 e.symm) k _, ?_, h.le⟩
  have h2 := (h.o.stored k (.int .u64 v)).1
  rw [← List.map_set] at h2
  rw [List.length_set]
  exact h2
theorem St.setP {w : World} {a g cv : Nat} {zs ps : List Int} {u : Value} {x : Int} {W : World} (h : St w a g cv zs (bkC u ps) x W) (k : Nat) (v : Int) : St w a g cv zs (bkC u (ps.set k v)) x (W.setCell ⟨a, 1 + k, none⟩ (.int .u64 v)) := by
  refine ⟨h.bel.set (by show _ ≤ a; exact h.le) _, ?_, h.e.other (by omega) _ _, Kk.owns_set h.o (by intro e; exact h.ga.1 (Option.some.inj e)) _ _, h.le⟩
  have h2 := h.q.set (1 + k) (.int .u64 v)
  rw [List.setIfInBounds_toArray, Nat.add_comm, bkC, List.set_cons_succ, ← List.map_set] at h2
  rw [Nat.add_comm]
  exact h2
theorem St.cellZ {w : World} {a g cv : Nat} {zs : List Int} {Y : List Value} {x : Int} {W : World} (h : St w a g cv zs Y x W) {k : Nat} (hk : k < zs.length) : W.cell? ⟨g, k, none⟩ = some (.int .u64 (zs.getD k 0)) ∧ W.frozen? ⟨g, k, none⟩ = false := by
  refine ⟨?_, h.o.frozenAt k⟩
  rw [h.o.cellAt k (by simpa using hk), List.getElem?_map, List.getElem?_eq_getElem hk, Kk.getD_eq _ _ hk]
  rfl
theorem St.cellP {w : World} {a g cv : Nat} {zs ps : List Int} {u : Value} {x : Int} {W : World} (h : St w a g cv zs (bkC u ps) x W) {k : Nat} (hk : k < ps.length) : W.cell? ⟨a, 1 + k, none⟩ = some (.int .u64 (ps.getD k 0)) ∧ W.frozen? ⟨a, 1 + k, none⟩ = false := by
  refine ⟨h.q.cell (1 + k) ?_, h.q.frozen (1 + k)⟩
  rw [List.getElem?_toArray, Nat.add_comm, bkC, List.getElem?_cons_succ, List.getElem?_map, List.getElem?_eq_getElem hk, Kk.getD_eq _ _ hk]
  rfl
theorem St.cellS {w : World} {a g cv : Nat} {zs ps : List Int} {u : Value} {x : Int} {W : World} (h : St w a g cv zs (bkC u ps) x W) : W.cell? ⟨a, 0, none⟩ = some u := h.q.cell 0 rfl
theorem St.cellE {w : World} {a g cv : Nat} {zs : List Int} {Y : List Value} {x : Int} {W : World} (h : St w a g cv zs Y x W) : W.cell? ⟨a + 1, 0, none⟩ = some (.int .i64 x) := h.e.cell 0 rfl
theorem St.frozenE {w : World} {a g cv : Nat} {zs : List Int} {Y : List Value} {x : Int} {W : World} (h : St w a g cv zs Y x W) : W.frozen? ⟨a + 1, 0, none⟩ = false := h.e.frozen 0
theorem St.fb {w : World} {a g cv : Nat} {zs ps : List Int} {x : Int} {W : World} (h : St w a g cv zs (bkC (.slice (some ⟨g, 0, none⟩) zs.length cv) ps) x W) : FB w W (.agg (bkC (.slice (some ⟨g, 0, none⟩) zs.length cv) ps).toArray) zs ps := ⟨_, rfl, h.o, h.bel⟩
theorem ptr_same (x : Addr) (W : World) : (binOp .eql 72 (.pointer (some x)) (.pointer (some x))).run Try.prog W = .ok (.bool true) W := by
  obtain ⟨i0, h1, _⟩ := info_parts info_w
  exact run_eql_ptr_same W x Try.underlying72 h1
theorem St.blk {w : World} {a g cv : Nat} {zs : List Int} {Y : List Value} {x : Int} {W : World} (h : St w a g cv zs Y x W) : ∃ C t, W.heap[g]? = some (.cells C t (0, 0)) := by
  rcases h.o.2 with ⟨h1, _⟩ | ⟨g', cap, cur, h1, _, h2, _⟩
  · cases h1
  · injection h1 with h1
    injection h1 with h1
    injection h1 with h1
    subst h1
    exact ⟨_, _, h2⟩
theorem St.ptr_other {w : World} {a g cv : Nat} {zs : List Int} {Y : List Value} {x : Int} {W : World} (h : St w a g cv zs Y x W) {s d : Addr} (hs : s.block = g ∨ s.block = a) (hd : d.block = g ∨ d.block = a) (hne : s ≠ d) : (binOp .eql 72 (.pointer (some s)) (.pointer (some d))).run Try.prog W = .ok (.bool false) W := by
  obtain ⟨i0, h1, _, h2, _⟩ := info_parts info_w
  have B : ∀ y : Addr, y.block = g ∨ y.block = a → ∃ C t, W.heap[y.block]? = some (.cells C t (0, 0)) := fun y hy => by
    rcases hy with hy | hy
    · rw [hy]; exact h.blk
    · rw [hy]; exact ⟨_, _, h.q⟩
  obtain ⟨_, _, b1⟩ := B s hs
  obtain ⟨_, _, b2⟩ := B d hd
  exact run_eql_ptr_other W Try.underlying72 h1 (by rw [h2]; decide) hne b1 b2
theorem givesA (x : Int) (W : World) : Calls Try.prog 152 #[.int .i64 x] W fun e w' => e = .returned (.bool true) ∧ W = w' := by
  go_enter Try.func152, Try.ntmps152
  go_wp2
  go_ret
  exact ⟨rfl, rfl⟩
theorem givesP (x : Int) (W : World) : Calls Try.prog 153 #[.int .i64 x] W fun e w' => e = .returned (.bool (x != 2)) ∧ W = w' := by
  go_enter Try.func153, Try.ntmps153
  go_wp2
  go_ret
  exact ⟨rfl, rfl⟩
theorem subW (a b : Int) (w : World) (a0 : 0 ≤ a) (a1 : a ≤ 18446744073709551615) (b0 : 0 ≤ b) (h : b ≤ a) : Calls Try.prog 105 #[.int .u64 a, .int .u64 b] w fun e w' => e = .returned (.tuple #[.int .u64 (a - b), .int .i64 0]) ∧ w = w' := Fix.sub_ok a b w a0 a1 b0 h
theorem subN (a b : Int) (w : World) (h : a < b) : Calls Try.prog 105 #[.int .u64 a, .int .u64 b] w fun e w' => e = .returned (.tuple #[.int .u64 0, .int .i64 13]) ∧ w = w' := Fix.sub_no a b w h
theorem addS (a b : Int) (w : World) (a0 : 0 ≤ a) (a1 : a ≤ 18446744073709551615) (b0 : 0 ≤ b) (b1 : b ≤ 18446744073709551615) (h : a + b ≤ 18446744073709551615) : Calls Try.prog 89 #[.int .u64 a, .int .u64 b] w fun e w' => e = .returned (.tuple #[.int .u64 (a + b), .int .i64 0]) ∧ Kk.Bel w w' := by
  have := addW a b w a0 a1 b0 b1
  rwa [(Fix.amt_of h).1, (Fix.amt_of h).2] at this
theorem getD_set_ne (l : List Int) {i j : Nat} (v : Int) (h : j ≠ i) : (l.set j v).getD i 0 = l.getD i 0 := by
  rw [List.getD_eq_getElem?_getD, List.getElem?_set_ne h, List.getD_eq_getElem?_getD]
theorem St.fb' {w : World} {a g cv L : Nat} {zs ps : List Int} {x : Int} {W : World} (h : St w a g cv zs (bkC (.slice (some ⟨g, 0, none⟩) L cv) ps) x W) (hl : zs.length = L) : FB w W (.agg (bkC (.slice (some ⟨g, 0, none⟩) L cv) ps).toArray) zs ps := by
  subst hl; exact h.fb

theorem load_e {w : World} {b : Nat} {x : Int} (hc : w.cell? ⟨b, 0, none⟩ = some (.int .i64 x)) : (loadVar 30 ⟨b, 0, none⟩).run Try.prog w = .ok (.int .i64 x) w := by
  simp [loadVar, Try.isAgg30, go_sem, hc]
theorem leave_chk (tmps : Array Value) (W : World) (a b : Nat) (x : Int) (C : List Value) (R : Ending → World → Prop) (h10 : tmps.getD 10 undef = .pointer (some ⟨a, 0, none⟩)) (h11 : tmps.getD 11 undef = .pointer (some ⟨b, 0, none⟩))
    (hc : W.cell? ⟨b, 0, none⟩ = some (.int .i64 x)) (hq : Kk.Blk W a C.toArray 26) (hC : C.length = 5) (hR : R (.returned (.tuple #[.agg C.toArray, .int .i64 x])) W) : Leaves Try.prog Try.f92 tmps R [] .returning W :=
  ⟨_, res_cc Try.results92 tmps W ⟨a, 0, none⟩ ⟨b, 0, none⟩ (.agg C.toArray) (.int .i64 x) h10 h11 (load_b hq Try.underlying26 rfl (by rw [hC]; exact info_bank)) (load_e hc), hR⟩
theorem setC_cell {w : World} {a b : Nat} {v : Value} (Y : List Value) (h : w.cell? ⟨b, 0, none⟩ = some v) (hne : a ≠ b) : (w.setCells a 0 Y).cell? ⟨b, 0, none⟩ = some v := cell_kep h (kep_setCells a Y 0 w) (fun e => hne e.symm)
theorem leave_no (tmps : Array Value) (W : World) (a b : Nat) (x : Int) (C : List Value) (R : Ending → World → Prop) (h10 : tmps.getD 10 undef = .pointer (some ⟨a, 0, none⟩)) (h11 : tmps.getD 11 undef = .pointer (some ⟨b, 0, none⟩)) (hab : a ≠ b)
    (hc : W.cell? ⟨b, 0, none⟩ = some (.int .i64 x)) (hx : ¬ x = 0) (hq : Kk.Blk W a C.toArray 26) (hC : C.length = 5)
    (hR : R (.returned (.tuple #[.agg #[.slice none 0 0, .int .u64 0, .int .u64 0, .int .u64 0, .int .u64 0], .int .i64 x])) (W.setCells a 0 [.slice none 0 0, .int .u64 0, .int .u64 0, .int .u64 0, .int .u64 0])) :
    Leaves Try.prog Try.f92 tmps R [{ target := .fn (.func 110) #[.pointer (some ⟨b, 0, none⟩), .pointer (some ⟨a, 0, none⟩)], args := #[] }] .returning W := by
  refine leaves_cons (f := 110) (args := #[.pointer (some ⟨b, 0, none⟩), .pointer (some ⟨a, 0, none⟩)]) (by simp) (by simp [go_sem]) ?_
  refine (undo_no b a x C W hc hx hq hC).mono ?_
  rintro e u' w'' ⟨rfl, rfl, rfl⟩
  exact leave_chk tmps _ a b x [.slice none 0 0, .int .u64 0, .int .u64 0, .int .u64 0, .int .u64 0] R h10 h11 (setC_cell _ hc hab) (blk5 hq hC _ rfl) rfl hR
theorem leave_ok (tmps : Array Value) (W : World) (a b : Nat) (C : List Value) (R : Ending → World → Prop) (h10 : tmps.getD 10 undef = .pointer (some ⟨a, 0, none⟩)) (h11 : tmps.getD 11 undef = .pointer (some ⟨b, 0, none⟩))
    (hc : W.cell? ⟨b, 0, none⟩ = some (.int .i64 0)) (hq : Kk.Blk W a C.toArray 26) (hC : C.length = 5)
    (hR : R (.returned (.tuple #[.agg C.toArray, .int .i64 0])) W) :
    Leaves Try.prog Try.f92 tmps R [{ target := .fn (.func 110) #[.pointer (some ⟨b, 0, none⟩), .pointer (some ⟨a, 0, none⟩)], args := #[] }] .returning W := by
  refine leaves_cons (f := 110) (args := #[.pointer (some ⟨b, 0, none⟩), .pointer (some ⟨a, 0, none⟩)]) (by simp) (by simp [go_sem]) ?_
  refine (undo_ok b a W hc).mono ?_
  rintro e u' w'' ⟨rfl, rfl, rfl⟩
  exact leave_chk tmps _ a b 0 C R h10 h11 hc hq hC hR
end Bk
end Go.Proofs.Ytgdaojbflokmoaa
end
