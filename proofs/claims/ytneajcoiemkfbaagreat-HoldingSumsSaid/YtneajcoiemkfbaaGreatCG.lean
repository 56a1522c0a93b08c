/-
  Texts of this claim, put together: Ho8, Ho9, Ho13, Ho14, Ho15. What each one says, and under which conditions, stands ahead of it.
-/
import Derived.Laws.AppendOwnNone
import Derived.Laws.AppendOwn
import Derived.Deep.RegionLaw
import Derived.Lib.AppendZeros
import Derived.Lib.AppendZerosOnto
import Derived.Lib.Overlaps
import Derived.Laws.Externs
import Derived.Laws.CopyRow
import Derived.Test.YtneajcoiemkfbaaGreatTk
import Derived.Test.YtneajcoiemkfbaaGreatCF

section
/-
  What slices.Clone and holding.those answer, of classes and of positions; appends of rows. Conditions: at most a billion rows; the function value tells what q tells.
-/
namespace Go.Proofs.YtneajcoiemkfbaaGreat
open Go.RowKit Go.Shelf
set_option linter.unusedVariables false
namespace Ho
open Kk Pm

theorem flat_inv {k : R6 → List Value} (K : C6 k) : ∀ (l : List R6) (j : Nat) (u : Value), (flat k l)[j]? = some u → ∃ i t r, j = i * 6 + t ∧ l[i]? = some r ∧ (k r)[t]? = some u
  | [], j, u, h => by simp [flat] at h
  | y :: l, j, u, h => by
    replace h : (k y ++ flat k l)[j]? = some u := h
    rcases Nat.lt_or_ge j 6 with hj | hj
    · rw [List.getElem?_append_left (by rw [K.len]; exact hj)] at h
      exact ⟨0, j, y, by omega, rfl, h⟩
    · rw [List.getElem?_append_right (by rw [K.len]; exact hj), K.len] at h
      obtain ⟨i, t, r, h1, h2, h3⟩ := flat_inv K l (j - 6) u h
      exact ⟨i + 1, t, r, by omega, by simpa using h2, h3⟩
theorem add_at (b o j : Nat) : (⟨b, o, none⟩ : Addr).add j = ⟨b, o + j, none⟩ := by
  unfold Addr.add
  by_cases h : j = 0
  · simp [h]
  · simp [h]
theorem rs_news {k : R6 → List Value} (K : C6 k) {w : World} {A : Addr} {n c : Nat} {l : List R6} (h : RS k w (some A) n c l) : ∀ j u, (flat k l)[j]? = some u → w.cell? (A.add j) = some u := fun j u hj => by
  obtain ⟨i, t, r, rfl, hi, ht⟩ := flat_inv K l j u hj
  have hn : i < n := by have := (List.getElem?_eq_some_iff.1 hi).1; have := h.len; omega
  obtain ⟨b, o, e, _, hc⟩ := h.at hn hi
  injection e with e
  subst e
  rw [add_at, ← Nat.add_assoc]
  exact hc t u ht
/-- A row of one's own. -/
def OwnR (k : R6 → List Value) (t : TypeId) (w : World) (base : Nat) (v : Value) (l : List R6) : Prop := w.ownsRow base t 6 v l.length (flat k l)
theorem OwnR.rs {k : R6 → List Value} (K : C6 k) {t : TypeId} {w : World} {base : Nat} {v : Value} {l : List R6} (h : OwnR k t w base v l) : ∃ A c, v = .slice A l.length c ∧ RS k w A l.length c l ∧ c ≤ maxLen ∧ ∀ x, A = some x → base ≤ x.block := rs_own K h
theorem OwnR.bel {k : R6 → List Value} {t : TypeId} {w w' : World} {base : Nat} {v : Value} {l : List R6} (h : OwnR k t w base v l) (hb : Bel w w') : OwnR k t w' base v l := Kk.owns_bel h hb
theorem OwnR.nil_ (k : R6 → List Value) (t : TypeId) (w : World) (base : Nat) : OwnR k t w base (.slice none 0 0) [] := World.ownsRow_nil w base t 6

theorem wpList_append_C {w : World} {ops : Array Oper} {rest : List Oper} {o : Oper} {a : Act} {Q : Exit → Act → World → Prop} (hgd : o.guard = none) (s x : Operand)
    (ho : o.op = .call { callee := .builtin .append, args := #[s, x], argTypes := #[22, 22] })
    (base : Nat) (v : Value) (l : List R6) (hs : a.eval s = v) (hown : OwnR cC 90 w base v l) (A : Option Addr) (m c : Nat) (l2 : List R6) (hx : a.eval x = .slice A m c) (hi : RS cC w A m c l2)
    (hm : l.length + m ≤ 2000000000) (hb : base ≤ w.heap.size)
    (h : ∀ v' w', OwnR cC 90 w' base v' (l ++ l2) → w.grownBy w' v.ownBlock → wpList Tryz.prog ops Q rest (a.put o.dst v') w') : wpList Tryz.prog ops Q (o :: rest) a w := by
  obtain ⟨i0, h1, hz0, hz1, hz2⟩ := info_parts zero_c
  cases A with
  | none =>
    obtain rfl : c = 0 := hi.nil rfl
    obtain rfl : m = 0 := by have := hi.cap; omega
    have hz : l2 = [] := List.length_eq_zero_iff.1 hi.len
    subst hz
    refine wpList_append_own_none hgd s x 22 ho base 90 i0 6 Tryz.underlying22 h1 v l.length (flat cC l) hs hown hx ?_
    exact h v w (by simpa using hown) ⟨rfl, rfl, rfl, Nat.le_refl _, fun _ _ _ => rfl⟩
  | some ad =>
    refine wpList_append_own w hgd s x 22 ho base 90 i0 (.agg (cC (0, 0, 0, 0, 0, 0)).toArray) 6 48 Tryz.underlying22 h1 hz0 hz1 hz2 rfl (by decide) v l.length (flat cC l) hs hown ad m c (flat cC l2) hx (by rw [flat_len c6C, hi.len]) (rs_news c6C hi) (flat_one c6C l2) (by unfold maxLen; omega) (by omega) hb ?_
    intro v' w' h2 h3 _
    refine h v' w' ?_ h3
    unfold OwnR
    rw [flat_app, List.length_append, hi.len]
    exact h2
theorem own_emptyC (w : World) : OwnR cC 90 (w.alloc (.cells #[] 90)) w.heap.size (.slice (some ⟨w.heap.size, 0, none⟩) 0 0) [] :=
  World.ownsRow_made w #[] 0 (Nat.le_refl _) (Nat.zero_le _) rfl
set_option maxHeartbeats 1000000 in
theorem cloneC (A : Option Addr) (n c : Nat) (l : List R6) (w : World) (hi : RS cC w A n c l) (hn : n ≤ 1000000000) :
    Calls Tryz.prog 135 #[.slice A n c] w fun e w' => ∃ v, e = .returned v ∧ OwnR cC 90 w' w.heap.size v l ∧ Bel w w' := by
  have qT : ∀ (w : World) (a : Option Addr) (n c n' c' : Nat), (binOp .eql 22 (.slice a n c) (.slice none n' c')).run Tryz.prog w = .ok (.bool a.isNone) w := fun w a n c n' c' => Lib.run_eql_slice_nil w _ _ a n c n' c' Tryz.underlying22
  cases A with
  | none =>
    obtain rfl : c = 0 := hi.nil rfl
    obtain rfl : n = 0 := by have := hi.cap; omega
    have hz : l = [] := List.length_eq_zero_iff.1 hi.len
    subst hz
    clear hi
    go_enter Tryz.func135, Tryz.ntmps135
    go_wp2
    go_ret
    exact ⟨_, rfl, OwnR.nil_ _ _ _ _, Bel.refl _⟩
  | some ad =>
    have HS := Lib.hid (hi.bel ((Bel.refl w).alloc (.cells #[] 90)))
    have HE := Lib.hid (own_emptyC w)
    clear hi
    go_enter Tryz.func135, Tryz.ntmps135
    go_wp2_with (at_builtin; refine wpList_append_C rfl _ _ rfl w.heap.size _ [] rfl HE.out (some ad) n c l rfl HS.out (by simp; omega) (by simp) ?_; intro v' w1 hown' hgrow)
    have HO := Lib.hid hown'
    have hb : Bel w w1 := Kk.Bel.grown ((Bel.refl w).alloc _) hgrow (fun k hk => (HE.out.lt k hk).1)
    clear hown' hgrow
    go_wp2
    go_ret
    exact ⟨_, rfl, HO.out, hb⟩

set_option maxRecDepth 10000 in
set_option maxHeartbeats 2000000 in
theorem thoseC (q : R6 → Bool) (F : Nat) (lb : Array Value) (A : Option Addr) (n c : Nat) (l : List R6) (w : World) (hi : RS cC w A n c l) (hn : n ≤ 1000000000) (eg : ∀ args w, (callFunc F args).run Tryz.prog w = .ok (.enter F args) w)
    (hF : ∀ r W, Bel w W → Calls Tryz.prog F (#[.agg (cC r).toArray] ++ lb) W fun e W' => e = .returned (.bool (q r)) ∧ Bel W W') :
    Calls Tryz.prog 81 #[.slice A n c, .func (.func F) #[] lb] w fun e w' => ∃ v, e = .returned v ∧ OwnR cC 90 w' w.heap.size v (l.filter q) ∧ Bel w w' := by
  have HR := Lib.hid hi
  have HF := Lib.hid hF
  clear hi hF
  go_enter Tryz.func81, Tryz.ntmps81
  go_wp2_with fail
  go_loopw [4, 9] (fun s4 s9 wr => ∃ k : Nat, k ≤ n ∧ s9 = .int .i64 k ∧ Hid (OwnR cC 90 wr w.heap.size s4 ((l.take k).filter q)) ∧ Hid (Bel w wr)) (fun _ s9 _ => n - (intOf s9).toNat)
  case atStart => exact ⟨0, Nat.zero_le _, rfl, Lib.hid (OwnR.nil_ _ _ _ _), Lib.hid (Bel.refl _)⟩
  case round =>
    obtain ⟨k, hk, rfl, ho, hh⟩ := hrel
    by_cases hlt : k < n
    · obtain ⟨⟨r1, r2, r3, r4, r5, r6⟩, hr⟩ := HR.out.get hlt
      obtain ⟨b, o, rfl, hb, hrow⟩ := (HR.out.bel hh.out).at hlt hr
      have HNX := Lib.hid (show (l.take (k + 1)).filter q = (l.take k).filter q ++ (if q (r1, r2, r3, r4, r5, r6) then [(r1, r2, r3, r4, r5, r6)] else []) by
        rw [List.take_add_one, hr, List.filter_append]
        congr 1
        show List.filter q [(r1, r2, r3, r4, r5, r6)] = _
        by_cases hq : q (r1, r2, r3, r4, r5, r6) = true <;> simp [hq])
      have HLE := Lib.hid (show ((l.take k).filter q).length ≤ k from Nat.le_trans (List.length_filter_le _ _) (by rw [List.length_take]; omega))
      have HC := Lib.hid (fun W hW => HF.out (r1, r2, r3, r4, r5, r6) W hW)
      have hlt3 : (k : Int) < n := by omega
      obtain ⟨c0, c1, c2, c3, c4, c5⟩ := rng6 (rowC hrow)
      obtain ⟨y, hy⟩ : ∃ y, q (r1, r2, r3, r4, r5, r6) = y := ⟨_, rfl⟩
      rw [hy] at HC HNX
      clear hr hrow hy
      obtain ⟨V, hV⟩ : ∃ V, wr.alloc (.cells #[.int .i64 r1, .int .i64 r2, .int .i64 r3, .int .i64 r4, .int .u64 r5, .int .u64 r6] 90) = V := ⟨_, rfl⟩
      have BV := Lib.hid (show Bel wr V by rw [← hV]; exact (Bel.refl _).alloc _)
      have P0 := Lib.hid (show Blk V wr.heap.size #[.int .i64 r1, .int .i64 r2, .int .i64 r3, .int .i64 r4, .int .u64 r5, .int .u64 r6] 90 by rw [← hV]; exact Blk.new _ _ _)
      obtain ⟨d0, d1, d2, d3, d4, d5⟩ := rng6 (rngB (C := [.int .i64 r1, .int .i64 r2, .int .i64 r3, .int .i64 r4, .int .u64 r5, .int .u64 r6]) P0.out)
      rw [Nat.zero_add] at d1 d2 d3 d4 d5
      go_wp2_with fail
      refine (HC.out _ (hh.out.trans BV.out)).mono ?_
      rintro e V2 ⟨rfl, kb⟩
      have B2 := Lib.hid (hh.out.trans (BV.out.trans kb))
      have P2 := Lib.hid (P0.out.bel kb)
      have HO := Lib.hid (ho.out.bel (BV.out.trans kb))
      clear kb c0 c1 c2 c3 c4 c5 d0 d1 d2 d3 d4 d5 hV HC hh ho
      obtain ⟨g, hg⟩ : ∃ g, wr.heap.size = g := ⟨_, rfl⟩
      rw [hg] at P2 ⊢
      clear hg P0
      cases y
      · go_wp2_with fail
        go_roundw
        case rel => exact ⟨k + 1, by omega, by go_num, Lib.hid (by rw [HNX.out]; simpa using HO.out), B2⟩
        case measure => simp [intOf]; omega
      · obtain ⟨d0, d1, d2, d3, d4, d5⟩ := rng6 (rngB (C := [.int .i64 r1, .int .i64 r2, .int .i64 r3, .int .i64 r4, .int .u64 r5, .int .u64 r6]) P2.out)
        rw [Nat.zero_add] at d1 d2 d3 d4 d5
        have HX := Lib.hid (show RS cC (V2.alloc (.cells #[.int .i64 r1, .int .i64 r2, .int .i64 r3, .int .i64 r4, .int .u64 r5, .int .u64 r6] 90)) (some ⟨V2.heap.size, 0, none⟩) 1 1 [(r1, r2, r3, r4, r5, r6)] from rs_blk c6C (Blk.new _ _ _) rfl (Nat.le_refl _) rfl)
        have HOA := Lib.hid (HO.out.bel ((Bel.refl V2).alloc (.cells #[.int .i64 r1, .int .i64 r2, .int .i64 r3, .int .i64 r4, .int .u64 r5, .int .u64 r6] 90)))
        have HSZ := Lib.hid (Below.size B2.out)
        go_wp2_with (at_builtin; refine wpList_append_C rfl _ _ rfl w.heap.size _ ((l.take k).filter q) rfl HOA.out (some ⟨V2.heap.size, 0, none⟩) 1 1 [(r1, r2, r3, r4, r5, r6)] rfl HX.out (by have := HLE.out; omega) (by have := HSZ.out; simp; omega) ?_; intro v' w1 hown' hgrow)
        have HO2 := Lib.hid hown'
        have hb : Bel w w1 := Kk.Bel.grown (B2.out.alloc _) hgrow (fun k hk => (HOA.out.lt k hk).1)
        have HB2 := Lib.hid hb
        clear hown' hgrow hb
        go_wp2_with fail
        go_roundw
        case rel => exact ⟨k + 1, by omega, by go_num, Lib.hid (by rw [HNX.out]; exact HO2.out), HB2⟩
        case measure => simp [intOf]; omega
    · obtain rfl : k = n := by omega
      have HL := Lib.hid (show l.take k = l from List.take_of_length_le (by rw [HR.out.len]; exact Nat.le_refl _))
      rw [HL.out] at ho
      go_wp2_with fail
      go_ret
      exact ⟨_, rfl, ho.out, hh.out⟩

theorem wpList_append_P {w : World} {ops : Array Oper} {rest : List Oper} {o : Oper} {a : Act} {Q : Exit → Act → World → Prop} (hgd : o.guard = none) (s x : Operand)
    (ho : o.op = .call { callee := .builtin .append, args := #[s, x], argTypes := #[23, 23] })
    (base : Nat) (v : Value) (l : List R6) (hs : a.eval s = v) (hown : OwnR cP 93 w base v l) (A : Option Addr) (m c : Nat) (l2 : List R6) (hx : a.eval x = .slice A m c) (hi : RS cP w A m c l2)
    (hm : l.length + m ≤ 2000000000) (hb : base ≤ w.heap.size)
    (h : ∀ v' w', OwnR cP 93 w' base v' (l ++ l2) → w.grownBy w' v.ownBlock → wpList Tryz.prog ops Q rest (a.put o.dst v') w') : wpList Tryz.prog ops Q (o :: rest) a w := by
  obtain ⟨i0, h1, hz0, hz1, hz2⟩ := info_parts zero_p
  cases A with
  | none =>
    obtain rfl : c = 0 := hi.nil rfl
    obtain rfl : m = 0 := by have := hi.cap; omega
    have hz : l2 = [] := List.length_eq_zero_iff.1 hi.len
    subst hz
    refine wpList_append_own_none hgd s x 23 ho base 93 i0 6 Tryz.underlying23 h1 v l.length (flat cP l) hs hown hx ?_
    exact h v w (by simpa using hown) ⟨rfl, rfl, rfl, Nat.le_refl _, fun _ _ _ => rfl⟩
  | some ad =>
    refine wpList_append_own w hgd s x 23 ho base 93 i0 (.agg (cP (0, 0, 0, 0, 0, 0)).toArray) 6 48 Tryz.underlying23 h1 hz0 hz1 hz2 rfl (by decide) v l.length (flat cP l) hs hown ad m c (flat cP l2) hx (by rw [flat_len c6P, hi.len]) (rs_news c6P hi) (flat_one c6P l2) (by unfold maxLen; omega) (by omega) hb ?_
    intro v' w' h2 h3 _
    refine h v' w' ?_ h3
    unfold OwnR
    rw [flat_app, List.length_append, hi.len]
    exact h2
theorem own_emptyP (w : World) : OwnR cP 93 (w.alloc (.cells #[] 93)) w.heap.size (.slice (some ⟨w.heap.size, 0, none⟩) 0 0) [] :=
  World.ownsRow_made w #[] 0 (Nat.le_refl _) (Nat.zero_le _) rfl
set_option maxHeartbeats 1000000 in
theorem cloneP (A : Option Addr) (n c : Nat) (l : List R6) (w : World) (hi : RS cP w A n c l) (hn : n ≤ 1000000000) :
    Calls Tryz.prog 172 #[.slice A n c] w fun e w' => ∃ v, e = .returned v ∧ OwnR cP 93 w' w.heap.size v l ∧ Bel w w' := by
  have qT : ∀ (w : World) (a : Option Addr) (n c n' c' : Nat), (binOp .eql 23 (.slice a n c) (.slice none n' c')).run Tryz.prog w = .ok (.bool a.isNone) w := fun w a n c n' c' => Lib.run_eql_slice_nil w _ _ a n c n' c' Tryz.underlying23
  cases A with
  | none =>
    obtain rfl : c = 0 := hi.nil rfl
    obtain rfl : n = 0 := by have := hi.cap; omega
    have hz : l = [] := List.length_eq_zero_iff.1 hi.len
    subst hz
    clear hi
    go_enter Tryz.func172, Tryz.ntmps172
    go_wp2
    go_ret
    exact ⟨_, rfl, OwnR.nil_ _ _ _ _, Bel.refl _⟩
  | some ad =>
    have HS := Lib.hid (hi.bel ((Bel.refl w).alloc (.cells #[] 93)))
    have HE := Lib.hid (own_emptyP w)
    clear hi
    go_enter Tryz.func172, Tryz.ntmps172
    go_wp2_with (at_builtin; refine wpList_append_P rfl _ _ rfl w.heap.size _ [] rfl HE.out (some ad) n c l rfl HS.out (by simp; omega) (by simp) ?_; intro v' w1 hown' hgrow)
    have HO := Lib.hid hown'
    have hb : Bel w w1 := Kk.Bel.grown ((Bel.refl w).alloc _) hgrow (fun k hk => (HE.out.lt k hk).1)
    clear hown' hgrow
    go_wp2
    go_ret
    exact ⟨_, rfl, HO.out, hb⟩

set_option maxRecDepth 10000 in
set_option maxHeartbeats 2000000 in
theorem thoseP (q : R6 → Bool) (F : Nat) (lb : Array Value) (A : Option Addr) (n c : Nat) (l : List R6) (w : World) (hi : RS cP w A n c l) (hn : n ≤ 1000000000) (eg : ∀ args w, (callFunc F args).run Tryz.prog w = .ok (.enter F args) w)
    (hF : ∀ r W, Bel w W → Calls Tryz.prog F (#[.agg (cP r).toArray] ++ lb) W fun e W' => e = .returned (.bool (q r)) ∧ Bel W W') :
    Calls Tryz.prog 84 #[.slice A n c, .func (.func F) #[] lb] w fun e w' => ∃ v, e = .returned v ∧ OwnR cP 93 w' w.heap.size v (l.filter q) ∧ Bel w w' := by
  have HR := Lib.hid hi
  have HF := Lib.hid hF
  clear hi hF
  go_enter Tryz.func84, Tryz.ntmps84
  go_wp2_with fail
  go_loopw [4, 9] (fun s4 s9 wr => ∃ k : Nat, k ≤ n ∧ s9 = .int .i64 k ∧ Hid (OwnR cP 93 wr w.heap.size s4 ((l.take k).filter q)) ∧ Hid (Bel w wr)) (fun _ s9 _ => n - (intOf s9).toNat)
  case atStart => exact ⟨0, Nat.zero_le _, rfl, Lib.hid (OwnR.nil_ _ _ _ _), Lib.hid (Bel.refl _)⟩
  case round =>
    obtain ⟨k, hk, rfl, ho, hh⟩ := hrel
    by_cases hlt : k < n
    · obtain ⟨⟨r1, r2, r3, r4, r5, r6⟩, hr⟩ := HR.out.get hlt
      obtain ⟨b, o, rfl, hb, hrow⟩ := (HR.out.bel hh.out).at hlt hr
      have HNX := Lib.hid (show (l.take (k + 1)).filter q = (l.take k).filter q ++ (if q (r1, r2, r3, r4, r5, r6) then [(r1, r2, r3, r4, r5, r6)] else []) by
        rw [List.take_add_one, hr, List.filter_append]
        congr 1
        show List.filter q [(r1, r2, r3, r4, r5, r6)] = _
        by_cases hq : q (r1, r2, r3, r4, r5, r6) = true <;> simp [hq])
      have HLE := Lib.hid (show ((l.take k).filter q).length ≤ k from Nat.le_trans (List.length_filter_le _ _) (by rw [List.length_take]; omega))
      have HC := Lib.hid (fun W hW => HF.out (r1, r2, r3, r4, r5, r6) W hW)
      have hlt3 : (k : Int) < n := by omega
      obtain ⟨c0, c1, c2, c3, c4, c5⟩ := rng6 (rowP hrow)
      obtain ⟨y, hy⟩ : ∃ y, q (r1, r2, r3, r4, r5, r6) = y := ⟨_, rfl⟩
      rw [hy] at HC HNX
      clear hr hrow hy
      obtain ⟨V, hV⟩ : ∃ V, wr.alloc (.cells #[.int .i64 r1, .int .i64 r2, .int .i64 r3, .int .i64 r4, .int .i64 r5, .int .u64 r6] 93) = V := ⟨_, rfl⟩
      have BV := Lib.hid (show Bel wr V by rw [← hV]; exact (Bel.refl _).alloc _)
      have P0 := Lib.hid (show Blk V wr.heap.size #[.int .i64 r1, .int .i64 r2, .int .i64 r3, .int .i64 r4, .int .i64 r5, .int .u64 r6] 93 by rw [← hV]; exact Blk.new _ _ _)
      obtain ⟨d0, d1, d2, d3, d4, d5⟩ := rng6 (rngB (C := [.int .i64 r1, .int .i64 r2, .int .i64 r3, .int .i64 r4, .int .i64 r5, .int .u64 r6]) P0.out)
      rw [Nat.zero_add] at d1 d2 d3 d4 d5
      go_wp2_with fail
      refine (HC.out _ (hh.out.trans BV.out)).mono ?_
      rintro e V2 ⟨rfl, kb⟩
      have B2 := Lib.hid (hh.out.trans (BV.out.trans kb))
      have P2 := Lib.hid (P0.out.bel kb)
      have HO := Lib.hid (ho.out.bel (BV.out.trans kb))
      clear kb c0 c1 c2 c3 c4 c5 d0 d1 d2 d3 d4 d5 hV HC hh ho
      obtain ⟨g, hg⟩ : ∃ g, wr.heap.size = g := ⟨_, rfl⟩
      rw [hg] at P2 ⊢
      clear hg P0
      cases y
      · go_wp2_with fail
        go_roundw
        case rel => exact ⟨k + 1, by omega, by go_num, Lib.hid (by rw [HNX.out]; simpa using HO.out), B2⟩
        case measure => simp [intOf]; omega
      · obtain ⟨d0, d1, d2, d3, d4, d5⟩ := rng6 (rngB (C := [.int .i64 r1, .int .i64 r2, .int .i64 r3, .int .i64 r4, .int .i64 r5, .int .u64 r6]) P2.out)
        rw [Nat.zero_add] at d1 d2 d3 d4 d5
        have HX := Lib.hid (show RS cP (V2.alloc (.cells #[.int .i64 r1, .int .i64 r2, .int .i64 r3, .int .i64 r4, .int .i64 r5, .int .u64 r6] 93)) (some ⟨V2.heap.size, 0, none⟩) 1 1 [(r1, r2, r3, r4, r5, r6)] from rs_blk c6P (Blk.new _ _ _) rfl (Nat.le_refl _) rfl)
        have HOA := Lib.hid (HO.out.bel ((Bel.refl V2).alloc (.cells #[.int .i64 r1, .int .i64 r2, .int .i64 r3, .int .i64 r4, .int .i64 r5, .int .u64 r6] 93)))
        have HSZ := Lib.hid (Below.size B2.out)
        go_wp2_with (at_builtin; refine wpList_append_P rfl _ _ rfl w.heap.size _ ((l.take k).filter q) rfl HOA.out (some ⟨V2.heap.size, 0, none⟩) 1 1 [(r1, r2, r3, r4, r5, r6)] rfl HX.out (by have := HLE.out; omega) (by have := HSZ.out; simp; omega) ?_; intro v' w1 hown' hgrow)
        have HO2 := Lib.hid hown'
        have hb : Bel w w1 := Kk.Bel.grown (B2.out.alloc _) hgrow (fun k hk => (HOA.out.lt k hk).1)
        have HB2 := Lib.hid hb
        clear hown' hgrow hb
        go_wp2_with fail
        go_roundw
        case rel => exact ⟨k + 1, by omega, by go_num, Lib.hid (by rw [HNX.out]; exact HO2.out), HB2⟩
        case measure => simp [intOf]; omega
    · obtain rfl : k = n := by omega
      have HL := Lib.hid (show l.take k = l from List.take_of_length_le (by rw [HR.out.len]; exact Nat.le_refl _))
      rw [HL.out] at ho
      go_wp2_with fail
      go_ret
      exact ⟨_, rfl, ho.out, hh.out⟩
end Ho
end Go.Proofs.YtneajcoiemkfbaaGreat
end

section
/-
  What holding.addUp answers: whether the positions' shares are the classes'. Conditions: both are in order, each position has a class, at most a million rows.
-/
namespace Go.Proofs.YtneajcoiemkfbaaGreat
open Go.RowKit Go.Shelf
set_option linter.unusedVariables false
attribute [local go_sem] Oper.semAt_some
namespace Ho
open Kk Pm

/-- A row's cells stored anew. -/
theorem flat_set {k : R6 → List Value} (K : C6 k) (o : Nat) (v : Value) (ho : o < 6) : ∀ (l : List R6) (i : Nat) (r r' : R6), l[i]? = some r → k r' = (k r).set o v → (flat k l).set (i * 6 + o) v = flat k (l.set i r')
  | [], i, r, r', h, _ => by simp at h
  | y :: l, 0, r, r', h, he => by
    simp at h; subst h
    show (k y ++ flat k l).set (0 * 6 + o) v = k r' ++ flat k l
    rw [List.set_append_left _ _ (by rw [K.len]; omega), Nat.zero_mul, Nat.zero_add, he]
  | y :: l, i + 1, r, r', h, he => by
    show (k y ++ flat k l).set ((i + 1) * 6 + o) v = k y ++ flat k (l.set i r')
    rw [List.set_append_right _ _ (by rw [K.len]; omega), K.len, show (i + 1) * 6 + o - 6 = i * 6 + o by omega, flat_set K o v ho l i r r' (by simpa using h) he]
/-- A row in a block, known whole. -/
structure RB (k : R6 → List Value) (t : TypeId) (w : World) (g : Nat) (l : List R6) (cap : Nat) : Prop where
  blk : ∃ cur, Blk w g cur t ∧ cur.toList.take (l.length * 6) = flat k l ∧ cur.size = cap * 6
  cap : l.length ≤ cap
section
variable {k : R6 → List Value} {t : TypeId} {w w' : World} {g cap : Nat} {l : List R6}
theorem RB.rs (K : C6 k) (h : RB k t w g l cap) : RS k w (some ⟨g, 0, none⟩) l.length cap l := by
  obtain ⟨cur, h1, h2, h3⟩ := h.blk
  exact rs_blk K h1 rfl h.cap h2
theorem RB.bel (h : RB k t w g l cap) (hb : Bel w w') : RB k t w' g l cap := by
  obtain ⟨cur, h1, h2, h3⟩ := h.blk
  exact ⟨⟨cur, h1.bel hb, h2, h3⟩, h.cap⟩
theorem RB.kep {S : Nat → Prop} (h : RB k t w g l cap) (hb : Kep S w w') (hs : ¬ S g) : RB k t w' g l cap := by
  obtain ⟨cur, h1, h2, h3⟩ := h.blk
  exact ⟨⟨cur, h1.kep hb hs, h2, h3⟩, h.cap⟩
theorem RB.frozen (h : RB k t w g l cap) (i : Nat) : w.frozen? ⟨g, i, none⟩ = false := by
  obtain ⟨cur, h1, _⟩ := h.blk
  exact h1.frozen i
theorem RB.set (K : C6 k) (h : RB k t w g l cap) {i o : Nat} (ho : o < 6) {r r' : R6} {v : Value} (hr : l[i]? = some r) (he : k r' = (k r).set o v) : RB k t (w.setCell ⟨g, i * 6 + o, none⟩ v) g (l.set i r') cap := by
  obtain ⟨cur, h1, h2, h3⟩ := h.blk
  have hi := (List.getElem?_eq_some_iff.1 hr).1
  refine ⟨⟨_, h1.set _ v, ?_, by simpa using h3⟩, by simpa using h.cap⟩
  rw [List.length_set, Array.toList_setIfInBounds, List.take_set, h2, flat_set K o v ho l i r r' hr he]
theorem RB.grown (h : RB k t w g l cap) {row : Option Nat} (hg : w.grownBy w' row) (hr : ∀ r, row = some r → ∃ o : Obj, w.heap[r]? = some o ∧ o.isCells = false) : RB k t w' g l cap := by
  obtain ⟨cur, h1, h2, h3⟩ := h.blk
  exact ⟨⟨cur, blk_grown h1 hg hr, h2, h3⟩, h.cap⟩
end
theorem rb_own {k : R6 → List Value} (K : C6 k) {t : TypeId} {w : World} {base : Nat} {v : Value} {l : List R6} (h : OwnR k t w base v l) (hl : 0 < l.length) : ∃ g cap, v = .slice (some ⟨g, 0, none⟩) l.length cap ∧ base ≤ g ∧ RB k t w g l cap ∧ cap ≤ maxLen := by
  rcases h.2 with ⟨_, h0⟩ | ⟨g, cap, cur, e, hbg, hg, hnc, hm, hcs, ht⟩
  · omega
  · exact ⟨g, cap, e, hbg, ⟨⟨cur, hg, ht, hcs⟩, hnc⟩, hm⟩

/-- What is left of the classes' shares. -/
def sub1 (ps : List R6) : R6 → R6
  | (a, b, c, d, e, f) => (a, b, c, d, e, f - sumS ps (a, b, c, d, e, f))
def lft (cs ps : List R6) : List R6 := cs.map (sub1 ps)
theorem sumS_snoc (ps : List R6) (x r : R6) : sumS (ps ++ [x]) r = sumS ps r + (if ordC (stp x) r = 0 then shr x else 0) := by
  unfold sumS
  rw [List.map_append, List.sum_append]
  simp
theorem sumS0 {ps : List R6} (h : ∀ p ∈ ps, 0 ≤ shr p) (r : R6) : 0 ≤ sumS ps r := by
  induction ps with
  | nil => exact Int.le_refl _
  | cons p ps ih =>
    have h1 := ih (fun q hq => h q (List.mem_cons_of_mem _ hq))
    have h2 := h p (List.mem_cons_self ..)
    show 0 ≤ ((if ordC (stp p) r = 0 then shr p else 0) :: ps.map fun p => if ordC (stp p) r = 0 then shr p else 0).sum
    rw [List.sum_cons]
    have h3 : (ps.map fun p => if ordC (stp p) r = 0 then shr p else 0).sum = sumS ps r := rfl
    split <;> omega
theorem sumS_pre {ps qs : List R6} (h : ∀ p ∈ ps, 0 ≤ shr p) (hp : qs <+: ps) (r : R6) : sumS qs r ≤ sumS ps r := by
  obtain ⟨t, rfl⟩ := hp
  have : sumS (qs ++ t) r = sumS qs r + sumS t r := by unfold sumS; rw [List.map_append, List.sum_append]
  have := sumS0 (ps := t) (fun p hp => h p (List.mem_append_right _ hp)) r
  omega
theorem lft_key (cs ps : List R6) : (lft cs ps).map key = cs.map key := by
  unfold lft
  rw [List.map_map]
  rfl
/-- One more position: its class alone has less. -/
theorem lft_snoc {cs ps : List R6} (hs : Srt ordC cs) (x : R6) {r : R6} (hr : cs[pos ordC cs (stp x)]? = some r) (h0 : ordC r (stp x) = 0) :
    lft cs (ps ++ [x]) = (lft cs ps).set (pos ordC cs (stp x)) (sub1 (ps ++ [x]) r) ∧ sub1 (ps ++ [x]) r = (r.1, r.2.1, r.2.2.1, r.2.2.2.1, r.2.2.2.2.1, (sub1 ps r).2.2.2.2.2 - shr x) := by
  refine ⟨List.ext_getElem? fun j => ?_, ?_⟩
  · unfold lft
    rw [List.getElem?_map, List.getElem?_set, List.length_map, List.getElem?_map]
    by_cases hj : pos ordC cs (stp x) = j
    · subst hj
      rw [if_pos rfl, if_pos (List.getElem?_eq_some_iff.1 hr).1, hr]; rfl
    · rw [if_neg hj]
      cases hc : cs[j]? with
      | none => rfl
      | some y =>
        have hne : ¬ ordC (stp x) y = 0 := fun h => by
          have h1 := odC.sym h
          have g1 := get_mem odC hs (List.mem_of_getElem? hc) h1
          have g2 := get_mem odC hs (List.mem_of_getElem? hr) h0
          have e : some y = some r := g1.symm.trans g2
          injection e with e
          subst e
          have l1 := (List.getElem?_eq_some_iff.1 hc)
          have l2 := (List.getElem?_eq_some_iff.1 hr)
          have hnd : ∀ i k (hi : i < cs.length) (hk : k < cs.length), i < k → ordC cs[i] cs[k] < 0 := fun i k hi hk hik => List.pairwise_iff_getElem.1 hs i k hi hk hik
          rcases Nat.lt_or_ge j (pos ordC cs (stp x)) with hh | hh
          · have := hnd j _ l1.1 l2.1 hh
            rw [l1.2, l2.2, odC.self] at this
            omega
          · have := hnd _ j l2.1 l1.1 (by omega)
            rw [l1.2, l2.2, odC.self] at this
            omega
        obtain ⟨a, b, c, d, e, f⟩ := y
        show some (sub1 (ps ++ [x]) _) = some (sub1 ps _)
        unfold sub1
        simp only [sumS_snoc, if_neg hne, Int.add_zero]
  · obtain ⟨a, b, c, d, e, f⟩ := r
    show (a, b, c, d, e, f - sumS (ps ++ [x]) (a, b, c, d, e, f)) = (a, b, c, d, e, f - sumS ps (a, b, c, d, e, f) - shr x)
    rw [sumS_snoc, if_pos (odC.sym h0)]
    congr 5
    omega

/-- Between two rounds. -/
structure AuI (w : World) (g gl p : Nat) (A : Option Addr) (n c : Nat) (B : Option Addr) (m d : Nat) (A2 : Option Addr) (c2 : Nat) (cs ps : List R6) (pre : List (Ps ps)) (V : World) : Prop where
  hi : Hi p A2 n c2 B m d (cs.map key) ps V
  bx : Blk V (g + 1) #[.bool false] 4
  le : Blk V gl #[.slice A2 n c2, .slice B m d] 25
  rb : 0 < n → ∃ gc, A2 = some ⟨gc, 0, none⟩ ∧ w.heap.size ≤ gc ∧ RB cC 90 V gc (lft cs (pre.map (fun e : Ps ps => e.1))) c2
  bel : Bel w V
  no : ∀ r ∈ cs, sumS (pre.map (fun e : Ps ps => e.1)) r ≤ shr r
/-- Left with false. -/
def AuX (w : World) (g : Nat) (cs ps : List R6) (cd : Code) (pre : List (Ps ps)) (V : World) : Prop :=
  cd = .ret ∧ (∃ r ∈ cs, shr r < sumS (pre.map (fun e : Ps ps => e.1)) r) ∧ Blk V (g + 1) #[.bool false] 4 ∧ Bel w V
theorem addUp1 (x1 x2 x3 x4 x5 x6 : Int) (w : World) : Calls Tryz.prog 137 #[.agg (cC (x1, x2, x3, x4, x5, x6)).toArray] w fun e w' => e = .returned (.bool (decide (0 < x6))) ∧ Bel w w' := by
  show Calls Tryz.prog 137 #[.agg #[.int .i64 x1, .int .i64 x2, .int .i64 x3, .int .i64 x4, .int .u64 x5, .int .u64 x6]] w _
  have B0 := Lib.hid ((Bel.refl w).alloc (.cells #[.int .i64 x1, .int .i64 x2, .int .i64 x3, .int .i64 x4, .int .u64 x5, .int .u64 x6] 90))
  go_enter Tryz.func137, Tryz.ntmps137
  go_wp2_with fail
  go_ret
  exact ⟨rfl, B0.out⟩
/-- The first class that has more than nothing. -/
def idxB (q : R6 → Bool) : List R6 → Nat → Int
  | [], _ => -1
  | r :: l, k => if q r then (k : Int) else idxB q l (k + 1)
theorem idxB_at (q : R6 → Bool) : ∀ (l : List R6) (i k : Nat) (r : R6), l[i]? = some r → q r = true → (∀ (j : Nat) (x : R6), j < i → l[j]? = some x → q x = false) → idxB q l k = ((k + i : Nat) : Int)
  | [], i, k, r, h, _, _ => by simp at h
  | y :: l, 0, k, r, h, hq, _ => by simp at h; subst h; simp [idxB, hq]
  | y :: l, i + 1, k, r, h, hq, hb => by
    have h0 : q y = false := hb 0 y (by omega) rfl
    have := idxB_at q l i (k + 1) r (by simpa using h) hq (fun j x hj hl => hb (j + 1) x (by omega) (by simpa using hl))
    show (if q y = true then (k : Int) else idxB q l (k + 1)) = _
    rw [h0, if_neg (by decide), this]
    push_cast
    omega
theorem idxB_no (q : R6 → Bool) : ∀ (l : List R6) (k : Nat), (∀ (j : Nat) (x : R6), l[j]? = some x → q x = false) → idxB q l k = -1
  | [], k, _ => rfl
  | y :: l, k, hb => by
    have h0 : q y = false := hb 0 y rfl
    show (if q y = true then (k : Int) else idxB q l (k + 1)) = _
    rw [h0, if_neg (by decide), idxB_no q l (k + 1) (fun j x hl => hb (j + 1) x (by simpa using hl))]
set_option maxRecDepth 10000 in
set_option maxHeartbeats 2000000 in
theorem indexFuncC (q : R6 → Bool) (F : Nat) (lb : Array Value) (A : Option Addr) (n c : Nat) (l : List R6) (w : World) (hi : RS cC w A n c l) (hn : n ≤ 1000000000) (eg : ∀ args w, (callFunc F args).run Tryz.prog w = .ok (.enter F args) w)
    (hF : ∀ r W, Bel w W → Calls Tryz.prog F (#[.agg (cC r).toArray] ++ lb) W fun e W' => e = .returned (.bool (q r)) ∧ Bel W W') :
    Calls Tryz.prog 185 #[.slice A n c, .func (.func F) #[] lb] w fun e w' => e = .returned (.int .i64 (idxB q l 0)) ∧ Bel w w' := by
  have HR := Lib.hid hi
  have HF := Lib.hid hF
  clear hi hF
  go_enter Tryz.func185, Tryz.ntmps185
  go_wp2_with fail
  go_loopw [8] (fun i wr => ∃ k : Nat, k ≤ n ∧ i = .int .i64 k ∧ Hid ((∀ (j : Nat) (x : R6), j < k → l[j]? = some x → q x = false) ∧ Bel w wr)) (fun i _ => n - (intOf i).toNat)
  case atStart => exact ⟨0, Nat.zero_le _, rfl, Lib.hid ⟨fun j x hj => absurd hj (by omega), Bel.refl _⟩⟩
  case round =>
    obtain ⟨k, hk, rfl, hh⟩ := hrel
    by_cases hlt : k < n
    · obtain ⟨⟨r1, r2, r3, r4, r5, r6⟩, hr⟩ := HR.out.get hlt
      obtain ⟨b, o, rfl, hb, hrow⟩ := (HR.out.bel hh.out.2).at hlt hr
      have HRR := Lib.hid hr
      have HC := Lib.hid (fun W hW => HF.out (r1, r2, r3, r4, r5, r6) W hW)
      have hlt3 : (k : Int) < n := by omega
      obtain ⟨c0, c1, c2, c3, c4, c5⟩ := rng6 (rowC hrow)
      obtain ⟨y, hy⟩ : ∃ y, q (r1, r2, r3, r4, r5, r6) = y := ⟨_, rfl⟩
      have HY := Lib.hid hy
      rw [hy] at HC
      clear hr hrow hy
      go_wp2_with fail
      refine (HC.out _ hh.out.2).mono ?_
      rintro e V2 ⟨rfl, kb⟩
      have B2 := Lib.hid (hh.out.2.trans kb)
      clear kb c0 c1 c2 c3 c4 c5
      cases y
      · go_wp2_with fail
        go_roundw
        case rel =>
          refine ⟨k + 1, by omega, by go_num, Lib.hid ⟨fun j x hj hx => ?_, B2.out⟩⟩
          rcases Nat.lt_or_ge j k with h' | h'
          · exact hh.out.1 j x h' hx
          · obtain rfl : j = k := by omega
            have := HRR.out.symm.trans hx
            injection this with this
            rw [← this]; exact HY.out
        case measure => simp [intOf]; omega
      · go_wp2_with fail
        go_ret
        exact ⟨by rw [idxB_at q l k 0 _ HRR.out HY.out (fun j x hj hx => hh.out.1 j x hj hx), Nat.zero_add]; rfl, B2.out⟩
    · obtain rfl : k = n := by omega
      go_wp2_with fail
      go_ret
      exact ⟨by rw [idxB_no q l 0 (fun j x hx => hh.out.1 j x (by have := (List.getElem?_eq_some_iff.1 hx).1; have := HR.out.len; omega) hx)]; rfl, hh.out.2⟩
theorem idxB_any (q : R6 → Bool) : ∀ (l : List R6) (k : Nat), decide (0 ≤ idxB q l k) = l.any q
  | [], k => rfl
  | y :: l, k => by
    show decide (0 ≤ if q y = true then (k : Int) else idxB q l (k + 1)) = (q y || l.any q)
    cases h : q y
    · rw [if_neg (by decide), idxB_any q l (k + 1), Bool.false_or]
    · rw [if_pos rfl, Bool.true_or]; exact decide_eq_true (by omega)
theorem containsC (q : R6 → Bool) (F : Nat) (lb : Array Value) (A : Option Addr) (n c : Nat) (l : List R6) (w : World) (hi : RS cC w A n c l) (hn : n ≤ 1000000000) (eg : ∀ args w, (callFunc F args).run Tryz.prog w = .ok (.enter F args) w)
    (hF : ∀ r W, Bel w W → Calls Tryz.prog F (#[.agg (cC r).toArray] ++ lb) W fun e W' => e = .returned (.bool (q r)) ∧ Bel W W') :
    Calls Tryz.prog 136 #[.slice A n c, .func (.func F) #[] lb] w fun e w' => e = .returned (.bool (l.any q)) ∧ Bel w w' := by
  rw [← idxB_any q l 0]
  have IX := Lib.hid (indexFuncC q F lb A n c l w hi hn eg hF)
  clear hi hF
  obtain ⟨i, hI⟩ : ∃ i, idxB q l 0 = i := ⟨_, rfl⟩
  rw [hI] at IX ⊢
  clear hI
  go_enter Tryz.func136, Tryz.ntmps136
  go_wp2_with fail
  refine IX.out.mono ?_
  rintro e w1 ⟨rfl, kb⟩
  have KB := Lib.hid kb
  clear kb IX
  go_wp2_with fail
  go_ret
  exact ⟨rfl, KB.out⟩
end Ho
end Go.Proofs.YtneajcoiemkfbaaGreat
end

section
/-
  What slices.Delete, Insert and Replace make of a list of one's own, of classes and of positions, one row taken out, put in, or put in the place of another. Conditions: at most a billion rows.
-/
namespace Go.Proofs.YtneajcoiemkfbaaGreat
open Go.RowKit Go.Shelf
set_option linter.unusedVariables false
set_option linter.unusedSimpArgs false
namespace Ho
open Kk Pm

theorem run_copy6 {P : Program} (w : World) (dT sT ty elem : TypeId) (g o dLen dCap : Nat) (a : Addr) (sLen sCap : Nat) (cur : List Value) (t : TypeId) (cs : List Value)
    (hu : P.underlying dT = some (.slice elem)) (hs : (P.info? elem).map (·.size) = some 6) (hg : Blk w g cur.toArray t) (hn : cs.length = Nat.min sLen dLen * 6)
    (hsrc : ∀ j v, cs[j]? = some v → w.cell? (a.add j) = some v) (hfit : o + cs.length ≤ cur.length) (h1 : ∀ v ∈ cs, v.oneCell' = true) :
    (Builtin.copy_ #[dT, sT] ty #[.slice (some ⟨g, o, none⟩) dLen dCap, .slice (some a) sLen sCap]).run P w = .ok (goInt (Nat.min sLen dLen)) (w.setRow g (cur.take o ++ cs ++ cur.drop (o + cs.length)).toArray) := by
  have hf := run_firstCells_some (P := P) w 6 (Nat.min sLen dLen) a sLen sCap cs hn hsrc
  have hst := run_storeCells_at P g o t cs 0 cur.toArray w hg (by simpa using hfit) h1
  simp only [Nat.add_zero] at hst
  cases hq : P.info? elem with
  | none => simp [hq] at hs
  | some i =>
    have hi : i.size = 6 := by simpa [hq] using hs
    simp [Builtin.copy_, run_underlying hu, Builtin.lenOf, sizeOf, typeInfo, hq, hi, hf, hst]
theorem run_clear6 {P : Program} (w : World) (t e ty : TypeId) (z : Value) (zs : List Value) (ht : P.underlying t = some (.slice e)) (hv : ∀ w, (zeroValue e).run P w = .ok z w) (hz : z.cells = zs.toArray) (h6 : zs.length = 6) (h1 : ∀ v ∈ zs, v.oneCell' = true) (g o c : Nat) (cur : List Value) (tt : TypeId)
    (hg : Blk w g cur.toArray tt) (hfit : o + 6 ≤ cur.length) :
    (Builtin.clear_ #[t] ty #[.slice (some ⟨g, o, none⟩) 1 c]).run P w = .ok (.tuple #[]) (w.setRow g (cur.take o ++ zs ++ cur.drop (o + 6)).toArray) := by
  have hzc : (Builtin.zeroCells z.cells 1).toList = zs := by
    rw [hz]
    simp [Builtin.zeroCells]
    apply List.ext_getElem
    · simp
    · intro i h2 h3
      have : i < zs.length := h3
      simp [Nat.mod_eq_of_lt this, List.getElem?_eq_getElem this]
  have hst := run_storeCells_at P g o tt zs 0 cur.toArray w hg (by simpa [h6] using hfit) h1
  simp only [Nat.add_zero, h6] at hst
  simp [Builtin.clear_, run_underlying ht, hv, hzc, hst]
theorem wpList_copy_run {P : Program} {w : World} {ops : Array Oper} {rest : List Oper} {o : Oper} {a : Act} {Q : Exit → Act → World → Prop} (hgd : o.guard = none) (d s : Operand) (t t' : TypeId)
    (ho : o.op = .call { callee := .builtin .copy, args := #[d, s], argTypes := #[t, t'] }) (v u : Value) (hd : a.eval d = v) (hs : a.eval s = u) {v' : Value} {w' : World}
    (hr : (Builtin.copy_ #[t, t'] o.type #[v, u]).run P w = .ok v' w') (h : wpList P ops Q rest (a.put o.dst v') w') : wpList P ops Q (o :: rest) a w :=
  wpList_plain hgd fun _ hK => by
    unfold Oper.wp execOp
    simp only [ho, resolve, invoke, builtin, Sem.run_bind, Sem.run_pure, Result.andThen_ok, List.map_toArray, List.map_cons, List.map_nil, hd, hs, hr]
    exact hK _ _ h
theorem wpList_clear_run {P : Program} {w : World} {ops : Array Oper} {rest : List Oper} {o : Oper} {a : Act} {Q : Exit → Act → World → Prop} (hgd : o.guard = none) (d : Operand) (t : TypeId)
    (ho : o.op = .call { callee := .builtin .clear, args := #[d], argTypes := #[t] }) (v : Value) (hd : a.eval d = v) {v' : Value} {w' : World}
    (hr : (Builtin.clear_ #[t] o.type #[v]).run P w = .ok v' w') (h : wpList P ops Q rest (a.put o.dst v') w') : wpList P ops Q (o :: rest) a w :=
  wpList_plain hgd fun _ hK => by
    unfold Oper.wp execOp
    simp only [ho, resolve, invoke, builtin, Sem.run_bind, Sem.run_pure, Result.andThen_ok, List.map_toArray, List.map_cons, List.map_nil, hd, hr]
    exact hK _ _ h
theorem step_copy_run {P : Program} {ops : Array Oper} {o : Oper} {a : Act} {w : World} {K : Act → World → Prop} {Q : Exit → Act → World → Prop} {E : Prop}
    (hg : o.guard = none) (d x : Operand) (dT sT : TypeId) (hop : o.op = Op.call { callee := Callee.builtin Builtin.copy, args := #[d, x], argTypes := #[dT, sT] })
    (v u : Value) (hd : a.eval d = v) (hx : a.eval x = u) {v' : Value} {w' : World} (hr : (Builtin.copy_ #[dT, sT] o.type #[v, u]).run P w = .ok v' w') (hK : K (a.put o.dst v') w') :
    if Region.wanted o (yielded ops a.tmps) = true then Oper.wp P o a w K Q else E := by
  have hw : Region.wanted o (yielded ops a.tmps) = true := by simp [Region.wanted, hg]
  rw [if_pos hw]
  unfold Oper.wp
  simp [execOp, hop, resolve, invoke, builtin, hd, hx, hr, Result.andThen]
  exact hK
theorem step_append_run {P : Program} {ops : Array Oper} {o : Oper} {a : Act} {w : World} {K : Act → World → Prop} {Q : Exit → Act → World → Prop} {E : Prop}
    (hg : o.guard = none) (d x : Operand) (dT sT : TypeId) (hop : o.op = Op.call { callee := Callee.builtin Builtin.append, args := #[d, x], argTypes := #[dT, sT] })
    (v u : Value) (hd : a.eval d = v) (hx : a.eval x = u) {v' : Value} {w' : World} (hr : (Builtin.append_ #[dT, sT] o.type #[v, u]).run P w = .ok v' w') (hK : K (a.put o.dst v') w') :
    if Region.wanted o (yielded ops a.tmps) = true then Oper.wp P o a w K Q else E := by
  have hw : Region.wanted o (yielded ops a.tmps) = true := by simp [Region.wanted, hg]
  rw [if_pos hw]
  unfold Oper.wp
  simp [execOp, hop, resolve, invoke, builtin, hd, hx, hr, Result.andThen]
  exact hK
theorem blk_setRow {w : World} {g : Nat} {cur : Array Value} {t : TypeId} (h : Blk w g cur t) (X : Array Value) : Blk (w.setRow g X) g X t := setRow_heap w g cur X t (0, 0) h
theorem kep_setRow (w : World) (g : Nat) (X : Array Value) : Kep (fun b => b = g) w (w.setRow g X) :=
  ⟨rfl, rfl, rfl, by simp [World.setRow], fun k _ hk => setRow_other w g k X hk⟩
theorem rb_list {k : R6 → List Value} (K : C6 k) {t : TypeId} {w : World} {g : Nat} {l : List R6} {cap : Nat} (h : RB k t w g l cap) : ∃ sp, Blk w g (flat k l ++ sp).toArray t ∧ sp.length = (cap - l.length) * 6 := by
  obtain ⟨cur, h1, h2, h3⟩ := h.blk
  refine ⟨cur.toList.drop (l.length * 6), ?_, by simp [h3, Nat.sub_mul]⟩
  rw [← h2, List.take_append_drop]
  exact h1
theorem rb_mk {k : R6 → List Value} (K : C6 k) {t : TypeId} {w : World} {g : Nat} {l : List R6} {cap : Nat} {sp : List Value} (h : Blk w g (flat k l ++ sp).toArray t) (hs : sp.length = (cap - l.length) * 6) (hc : l.length ≤ cap) : RB k t w g l cap :=
  ⟨⟨_, h, by simp [flat_len K], by simp [flat_len K, hs]; omega⟩, hc⟩

theorem zero_vC (w : World) : (zeroValue 90).run Tryz.prog w = .ok (.agg (cC (0, 0, 0, 0, 0, 0)).toArray) w := by
  obtain ⟨i0, h1, hz0, hz1, hz2⟩ := info_parts zero_c
  simp [zeroValue, typeInfo, h1, hz0]
theorem slice_lC (g n cap i : Nat) (w : World) (h : i ≤ n) (hc : n ≤ cap) : (Instr.slice 22 (.slice (some ⟨g, 0, none⟩) n cap) (some (.int .i64 i)) none none).run Tryz.prog w = .ok (.slice (some (if cap = i then ⟨g, 0, none⟩ else ⟨g, i * 6, none⟩)) (n - i) (cap - i)) w := by
  have e : Tryz.prog.elem 22 = 90 := by kernel_rfl
  rw [run_slice_l (P := Tryz.prog) (w := w) (t := 22) (a := some ⟨g, 0, none⟩) (len := n) (cap := cap) (by rw [e]; exact Tryz.underlying22) .i64 i (by omega) (by omega), e]
  by_cases hh : cap = i
  · simp [Tryz.sizeOf90, Result.andThen, sliced, hh]
  · simp [Tryz.sizeOf90, Result.andThen, sliced, hh, add_at]
theorem slice_hrC (g n cap i : Nat) (w : World) (hc : i ≤ cap) : (Instr.slice 22 (.slice (some ⟨g, 0, none⟩) n cap) none (some (.int .i64 i)) none).run Tryz.prog w = .ok (.slice (some ⟨g, 0, none⟩) i cap) w := by
  have e : Tryz.prog.elem 22 = 90 := by kernel_rfl
  rw [run_slice_h (P := Tryz.prog) (w := w) (t := 22) (a := some ⟨g, 0, none⟩) (len := n) (cap := cap) (by rw [e]; exact Tryz.underlying22) .i64 i (by omega) (by omega), e]
  simp [Tryz.sizeOf90, Result.andThen, sliced, Addr.add]
theorem slice_lhC (g n cap i j : Nat) (w : World) (h : i ≤ j) (hc : j ≤ cap) (hi : i < cap) : (Instr.slice 22 (.slice (some ⟨g, 0, none⟩) n cap) (some (.int .i64 i)) (some (.int .i64 j)) none).run Tryz.prog w = .ok (.slice (some ⟨g, i * 6, none⟩) (j - i) (cap - i)) w := by
  have e : Tryz.prog.elem 22 = 90 := by kernel_rfl
  rw [run_slice_lh (P := Tryz.prog) (w := w) (t := 22) (a := some ⟨g, 0, none⟩) (len := n) (cap := cap) (by rw [e]; exact Tryz.underlying22) .i64 .i64 i j (by omega) (by omega) (by omega), e]
  simp [Tryz.sizeOf90, Result.andThen, sliced, add_at, show ¬ cap = i by omega]

set_option maxRecDepth 100000 in
set_option maxHeartbeats 4000000 in
/-- One row is taken out. -/
theorem deleteC (g cap i : Nat) (l : List R6) (w : World) (h : RB cC 90 w g l cap) (hi : i < l.length) (hn : l.length ≤ 1000000000) (hm : cap ≤ maxLen) :
    Calls Tryz.prog 221 #[.slice (some ⟨g, 0, none⟩) l.length cap, .int .i64 i, .int .i64 ((i : Int) + 1)] w fun e w' => e = .returned (.slice (some ⟨g, 0, none⟩) (l.length - 1) cap) ∧ RB cC 90 w' g (l.take i ++ l.drop (i + 1)) cap ∧ Kep (fun b => b = g) w w' := by
  obtain ⟨n, hnl⟩ : ∃ n, l.length = n := ⟨_, rfl⟩
  have hcap := h.cap
  obtain ⟨sp, hb, hsp⟩ := rb_list c6C h
  rw [hnl] at hi hn hcap hsp ⊢
  unfold maxLen at hm
  obtain ⟨i0, hi0, hz0, hz1, hz2⟩ := info_parts zero_c
  -- what stands behind
  obtain ⟨D, hD, hsrc⟩ : ∃ D : Addr, (if cap = i + 1 then (⟨g, 0, none⟩ : Addr) else ⟨g, (i + 1) * 6, none⟩) = D ∧ Hid (∀ j u, (flat cC (l.drop (i + 1)))[j]? = some u → ∀ W, Bel w W → W.cell? (D.add j) = some u) := by
    by_cases hc : cap = i + 1
    · refine ⟨_, rfl, fun j u hu => ?_⟩
      rw [List.drop_eq_nil_of_le (by omega)] at hu
      simp [flat] at hu
    · refine ⟨⟨g, (i + 1) * 6, none⟩, by rw [if_neg hc], fun j u hu W hW => ?_⟩
      rw [add_at]
      have h1 : (flat cC l ++ sp)[(i + 1) * 6 + j]? = some u := by
        rw [← flat_drop c6C, List.getElem?_drop] at hu
        rw [List.getElem?_append_left (List.getElem?_eq_some_iff.1 hu).1]
        exact hu
      exact (hb.bel hW).cell _ (by simpa using h1)
  have hs1 := fun W => slice_hrC g n cap i W (by omega)
  have hs2 := fun W => slice_lC g n cap (i + 1) W (by omega) hcap
  rw [hD] at hs2
  push_cast at hs2
  have hs3 := fun W => slice_lhC g (i + (n - (i + 1))) cap (i + (n - (i + 1))) n W (by omega) hcap (by omega)
  -- the world behind the append, and behind the clear
  have hlen2 : (flat cC (l.drop (i + 1))).length = (n - (i + 1)) * 6 := by rw [flat_len c6C, List.length_drop, hnl]
  have hap : ∀ W, Bel w W → ∀ ty, (Builtin.append_ #[22, 22] ty #[.slice (some ⟨g, 0, none⟩) i cap, .slice (some D) (n - (i + 1)) (cap - (i + 1))]).run Tryz.prog W = .ok (.slice (some ⟨g, 0, none⟩) (i + (n - (i + 1))) cap) (W.setRow g (flat cC (l.take i) ++ flat cC (l.drop (i + 1)) ++ (flat cC l ++ sp).drop ((n - 1) * 6)).toArray) := fun W hW ty => by
    have hr := run_append_room (P := Tryz.prog) W 22 ty 90 i0 Tryz.underlying22 hi0 g i cap _ (hb.bel hW) D (n - (i + 1)) (cap - (i + 1)) (flat cC (l.drop (i + 1))) (by rw [hz1]; exact hlen2) (fun j u hu => hsrc.out j u hu W hW) (flat_one c6C _) (by omega) (by rw [hz1, hlen2]; simp [flat_len c6C, hsp, hnl]; omega)
    rw [hr, hz1, hlen2]
    congr 3
    have e1 : (flat cC l ++ sp).toArray.toList.take (i * 6) = flat cC (l.take i) := by
      rw [← flat_take c6C]
      exact List.take_append_of_le_length (by rw [flat_len c6C, hnl]; omega)
    rw [e1, show i * 6 + (n - (i + 1)) * 6 = (n - 1) * 6 by omega]
  obtain ⟨X1, hX1⟩ : ∃ X1, X1 = flat cC (l.take i) ++ flat cC (l.drop (i + 1)) ++ (flat cC l ++ sp).drop ((n - 1) * 6) := ⟨_, rfl⟩
  have hX1l : X1.length = cap * 6 := by rw [hX1]; simp [flat_len c6C, hsp, hnl]; omega
  rw [← hX1] at hap
  obtain ⟨X2, hX2⟩ : ∃ X2, X2 = X1.take ((n - 1) * 6) ++ cC (0, 0, 0, 0, 0, 0) ++ X1.drop (n * 6) := ⟨_, rfl⟩
  have hcl : ∀ W, Blk W g X1.toArray 90 → ∀ ty, (Builtin.clear_ #[22] ty #[.slice (some ⟨g, (i + (n - (i + 1))) * 6, none⟩) (n - (i + (n - (i + 1)))) (cap - (i + (n - (i + 1))))]).run Tryz.prog W = .ok (.tuple #[]) (W.setRow g X2.toArray) := fun W hW ty => by
    rw [hX2]
    rw [show n - (i + (n - (i + 1))) = 1 by omega, show i + (n - (i + 1)) = n - 1 by omega]
    rw [run_clear6 W _ _ ty _ (cC (0, 0, 0, 0, 0, 0)) Tryz.underlying22 zero_vC rfl rfl (c6C.one _) g ((n - 1) * 6) _ X1 _ hW (by rw [hX1l]; omega), show (n - 1) * 6 + 6 = n * 6 by omega]
  have HFIN := Lib.hid (show X2 = flat cC (l.take i ++ l.drop (i + 1)) ++ (cC (0, 0, 0, 0, 0, 0) ++ X1.drop (n * 6)) by
    rw [hX2, List.append_assoc]
    congr 1
    rw [hX1, flat_app]
    exact List.take_left' (by simp [flat_len c6C, hnl]; omega))
  have HX1L := Lib.hid hX1l
  have HB := Lib.hid hb
  have HAP := Lib.hid hap
  have HCL := Lib.hid hcl
  have HNL := Lib.hid hnl
  have hin : (i : Int) + 1 ≤ n := by omega
  have hne : ((i : Int) == (i : Int) + 1) = false := by rw [beq_eq_false_iff_ne]; omega
  have hin2 : (n : Int) ≤ cap := by omega
  have HL2 := Lib.hid (show (l.take i ++ l.drop (i + 1)).length = n - 1 by rw [List.length_append, List.length_take, List.length_drop, hnl]; omega)
  clear hX2 hX1 hX1l hb hap hcl hsrc hD hlen2 hsp h hz0 hz1 hz2 hi0
  go_enter Tryz.func221, Tryz.ntmps221
  go_upto_region 5 with fail
  refine wp_region_held_drew (S := fun Vx => Kep (fun b => b = g) w Vx) (by kernel_rfl) (Kep.drew (Kep.refl _ _)) (fun hS0 => ?_)
  have HW6 := Lib.hid (show Bel w w.drew from (Bel.refl _).drew)
  obtain ⟨w6, hw6⟩ : ∃ w6, World.drew w = w6 := ⟨_, rfl⟩
  rw [hw6] at hS0 HW6 ⊢
  clear hw6
  refine ztk 0 { dst := some 20, op := .move (.tmp 0), type := 22, pos := "slices.go:232", after := #[], guard := none } (.slice (some ⟨g, 0, none⟩) n cap) (Or.inl ⟨by rfl, by intro w hSw; clear hSw; go_simp⟩) hS0 ?_
  try simp only [Act.put, zq1, zq2, zq3]
  refine ztk 1 { dst := some 21, op := .move (.tmp 1), type := 3, pos := "slices.go:232", after := #[], guard := none } (.int .i64 i) (Or.inl ⟨by rfl, by intro w hSw; clear hSw; go_simp⟩) hS0 ?_
  try simp only [Act.put, zq1, zq2, zq3]
  refine ztk 2 { dst := some 22, op := .slice 22 (.tmp 20) none (some (.tmp 21)) none, type := 22, pos := "slices.go:232", after := #[{ on := 0, ground := .data }, { on := 1, ground := .data }], guard := none } (.slice (some ⟨g, 0, none⟩) i cap) (Or.inl ⟨by rfl, by intro w hSw; clear hSw; go_simp⟩) hS0 ?_
  try simp only [Act.put, zq1, zq2, zq3]
  refine ztk 3 { dst := some 23, op := .move (.tmp 0), type := 22, pos := "slices.go:232", after := #[], guard := none } (.slice (some ⟨g, 0, none⟩) n cap) (Or.inl ⟨by rfl, by intro w hSw; clear hSw; go_simp⟩) hS0 ?_
  try simp only [Act.put, zq1, zq2, zq3]
  refine ztk 4 { dst := some 24, op := .move (.tmp 2), type := 3, pos := "slices.go:232", after := #[], guard := none } (.int .i64 ((i : Int) + 1)) (Or.inl ⟨by rfl, by intro w hSw; clear hSw; go_simp⟩) hS0 ?_
  try simp only [Act.put, zq1, zq2, zq3]
  refine ztk 5 { dst := some 25, op := .slice 22 (.tmp 23) (some (.tmp 24)) none none, type := 22, pos := "slices.go:232", after := #[{ on := 3, ground := .data }, { on := 4, ground := .data }], guard := none } (.slice (some D) (n - (i + 1)) (cap - (i + 1))) (Or.inl ⟨by rfl, by intro w hSw; clear hSw; go_simp⟩) hS0 ?_
  try simp only [Act.put, zq1, zq2, zq3]
  refine wpAnyH_ready (rs := [6]) (by kernel_rfl) (by simp) ?_
  refine AllReadyH.cons (o := { dst := some 26, op := .call { callee := .builtin .append, args := #[.tmp 22, .tmp 25], argTypes := #[22, 22] }, type := 22, pos := "slices.go:232", after := #[{ on := 2, ground := .data }, { on := 5, ground := .data }], guard := none }) rfl (fun K hK => ?_) AllReadyH.nil
  refine step_append_run rfl (.tmp 22) (.tmp 25) 22 22 rfl _ _ (by simp [Act.eval, Act.put]) (by simp [Act.eval, Act.put]) (HAP.out w6 HW6.out _) ?_
  refine hK.out _ _ (hS0.trans (kep_setRow _ _ _)) (fun hS1 => ?_)
  clear hK K
  try simp only [Act.put, zq1, zq2, zq3]
  refine ztk 7 { dst := some 0, op := .assign (.tmp 26), type := 22, pos := "slices.go:232", after := #[{ on := 6, ground := .data }, { on := 6, ground := .chain }, { on := 0, ground := .phase }, { on := 1, ground := .phase }, { on := 2, ground := .phase }, { on := 3, ground := .phase }, { on := 4, ground := .phase }, { on := 5, ground := .phase }, { on := 6, ground := .phase }], guard := none } (.slice (some ⟨g, 0, none⟩) (i + (n - (i + 1))) cap) (Or.inl ⟨by rfl, by intro w hSw; clear hSw; go_simp⟩) hS1 ?_
  try simp only [Act.put, zq1, zq2, zq3]
  refine wpAnyH_done (by kernel_rfl) ?_ _
  have HE := Lib.hid hS1
  have HB1 := Lib.hid (blk_setRow (HB.out.bel HW6.out) X1.toArray)
  obtain ⟨W1, hW1⟩ : ∃ W1, w6.setRow g X1.toArray = W1 := ⟨_, rfl⟩
  rw [hW1] at HE HB1 ⊢
  clear hW1 hS0
  have hle : ((i + (n - (i + 1)) : Nat) : Int) ≤ n := by omega
  go_wp2_with ((with_reducible refine wpList_clear_run rfl _ 22 rfl _ rfl (HCL.out W1 HB1.out _) ?_))
  go_ret
  refine ⟨by rw [show n - 1 = i + (n - (i + 1)) by omega]; rfl, ?_, HE.out.trans (kep_setRow _ _ _)⟩
  have hB2 := blk_setRow HB1.out X2.toArray
  exact rb_mk c6C (w := W1.setRow g X2.toArray) (by rw [← HFIN.out]; exact hB2) (by rw [HL2.out, List.length_append, List.length_drop, c6C.len, HX1L.out]; omega) (by rw [HL2.out]; omega)

theorem zero_vP (w : World) : (zeroValue 93).run Tryz.prog w = .ok (.agg (cP (0, 0, 0, 0, 0, 0)).toArray) w := by
  obtain ⟨i0, h1, hz0, hz1, hz2⟩ := info_parts zero_p
  simp [zeroValue, typeInfo, h1, hz0]
theorem slice_lP (g n cap i : Nat) (w : World) (h : i ≤ n) (hc : n ≤ cap) : (Instr.slice 23 (.slice (some ⟨g, 0, none⟩) n cap) (some (.int .i64 i)) none none).run Tryz.prog w = .ok (.slice (some (if cap = i then ⟨g, 0, none⟩ else ⟨g, i * 6, none⟩)) (n - i) (cap - i)) w := by
  have e : Tryz.prog.elem 23 = 93 := by kernel_rfl
  rw [run_slice_l (P := Tryz.prog) (w := w) (t := 23) (a := some ⟨g, 0, none⟩) (len := n) (cap := cap) (by rw [e]; exact Tryz.underlying23) .i64 i (by omega) (by omega), e]
  by_cases hh : cap = i
  · simp [Tryz.sizeOf93, Result.andThen, sliced, hh]
  · simp [Tryz.sizeOf93, Result.andThen, sliced, hh, add_at]
theorem slice_hrP (g n cap i : Nat) (w : World) (hc : i ≤ cap) : (Instr.slice 23 (.slice (some ⟨g, 0, none⟩) n cap) none (some (.int .i64 i)) none).run Tryz.prog w = .ok (.slice (some ⟨g, 0, none⟩) i cap) w := by
  have e : Tryz.prog.elem 23 = 93 := by kernel_rfl
  rw [run_slice_h (P := Tryz.prog) (w := w) (t := 23) (a := some ⟨g, 0, none⟩) (len := n) (cap := cap) (by rw [e]; exact Tryz.underlying23) .i64 i (by omega) (by omega), e]
  simp [Tryz.sizeOf93, Result.andThen, sliced, Addr.add]
theorem slice_lhP (g n cap i j : Nat) (w : World) (h : i ≤ j) (hc : j ≤ cap) (hi : i < cap) : (Instr.slice 23 (.slice (some ⟨g, 0, none⟩) n cap) (some (.int .i64 i)) (some (.int .i64 j)) none).run Tryz.prog w = .ok (.slice (some ⟨g, i * 6, none⟩) (j - i) (cap - i)) w := by
  have e : Tryz.prog.elem 23 = 93 := by kernel_rfl
  rw [run_slice_lh (P := Tryz.prog) (w := w) (t := 23) (a := some ⟨g, 0, none⟩) (len := n) (cap := cap) (by rw [e]; exact Tryz.underlying23) .i64 .i64 i j (by omega) (by omega) (by omega), e]
  simp [Tryz.sizeOf93, Result.andThen, sliced, add_at, show ¬ cap = i by omega]

set_option maxRecDepth 100000 in
set_option maxHeartbeats 4000000 in
/-- One row is taken out. -/
theorem deleteP (g cap i : Nat) (l : List R6) (w : World) (h : RB cP 93 w g l cap) (hi : i < l.length) (hn : l.length ≤ 1000000000) (hm : cap ≤ maxLen) :
    Calls Tryz.prog 223 #[.slice (some ⟨g, 0, none⟩) l.length cap, .int .i64 i, .int .i64 ((i : Int) + 1)] w fun e w' => e = .returned (.slice (some ⟨g, 0, none⟩) (l.length - 1) cap) ∧ RB cP 93 w' g (l.take i ++ l.drop (i + 1)) cap ∧ Kep (fun b => b = g) w w' := by
  obtain ⟨n, hnl⟩ : ∃ n, l.length = n := ⟨_, rfl⟩
  have hcap := h.cap
  obtain ⟨sp, hb, hsp⟩ := rb_list c6P h
  rw [hnl] at hi hn hcap hsp ⊢
  unfold maxLen at hm
  obtain ⟨i0, hi0, hz0, hz1, hz2⟩ := info_parts zero_p
  -- what stands behind
  obtain ⟨D, hD, hsrc⟩ : ∃ D : Addr, (if cap = i + 1 then (⟨g, 0, none⟩ : Addr) else ⟨g, (i + 1) * 6, none⟩) = D ∧ Hid (∀ j u, (flat cP (l.drop (i + 1)))[j]? = some u → ∀ W, Bel w W → W.cell? (D.add j) = some u) := by
    by_cases hc : cap = i + 1
    · refine ⟨_, rfl, fun j u hu => ?_⟩
      rw [List.drop_eq_nil_of_le (by omega)] at hu
      simp [flat] at hu
    · refine ⟨⟨g, (i + 1) * 6, none⟩, by rw [if_neg hc], fun j u hu W hW => ?_⟩
      rw [add_at]
      have h1 : (flat cP l ++ sp)[(i + 1) * 6 + j]? = some u := by
        rw [← flat_drop c6P, List.getElem?_drop] at hu
        rw [List.getElem?_append_left (List.getElem?_eq_some_iff.1 hu).1]
        exact hu
      exact (hb.bel hW).cell _ (by simpa using h1)
  have hs1 := fun W => slice_hrP g n cap i W (by omega)
  have hs2 := fun W => slice_lP g n cap (i + 1) W (by omega) hcap
  rw [hD] at hs2
  push_cast at hs2
  have hs3 := fun W => slice_lhP g (i + (n - (i + 1))) cap (i + (n - (i + 1))) n W (by omega) hcap (by omega)
  -- the world behind the append, and behind the clear
  have hlen2 : (flat cP (l.drop (i + 1))).length = (n - (i + 1)) * 6 := by rw [flat_len c6P, List.length_drop, hnl]
  have hap : ∀ W, Bel w W → ∀ ty, (Builtin.append_ #[23, 23] ty #[.slice (some ⟨g, 0, none⟩) i cap, .slice (some D) (n - (i + 1)) (cap - (i + 1))]).run Tryz.prog W = .ok (.slice (some ⟨g, 0, none⟩) (i + (n - (i + 1))) cap) (W.setRow g (flat cP (l.take i) ++ flat cP (l.drop (i + 1)) ++ (flat cP l ++ sp).drop ((n - 1) * 6)).toArray) := fun W hW ty => by
    have hr := run_append_room (P := Tryz.prog) W 23 ty 93 i0 Tryz.underlying23 hi0 g i cap _ (hb.bel hW) D (n - (i + 1)) (cap - (i + 1)) (flat cP (l.drop (i + 1))) (by rw [hz1]; exact hlen2) (fun j u hu => hsrc.out j u hu W hW) (flat_one c6P _) (by omega) (by rw [hz1, hlen2]; simp [flat_len c6P, hsp, hnl]; omega)
    rw [hr, hz1, hlen2]
    congr 3
    have e1 : (flat cP l ++ sp).toArray.toList.take (i * 6) = flat cP (l.take i) := by
      rw [← flat_take c6P]
      exact List.take_append_of_le_length (by rw [flat_len c6P, hnl]; omega)
    rw [e1, show i * 6 + (n - (i + 1)) * 6 = (n - 1) * 6 by omega]
  obtain ⟨X1, hX1⟩ : ∃ X1, X1 = flat cP (l.take i) ++ flat cP (l.drop (i + 1)) ++ (flat cP l ++ sp).drop ((n - 1) * 6) := ⟨_, rfl⟩
  have hX1l : X1.length = cap * 6 := by rw [hX1]; simp [flat_len c6P, hsp, hnl]; omega
  rw [← hX1] at hap
  obtain ⟨X2, hX2⟩ : ∃ X2, X2 = X1.take ((n - 1) * 6) ++ cP (0, 0, 0, 0, 0, 0) ++ X1.drop (n * 6) := ⟨_, rfl⟩
  have hcl : ∀ W, Blk W g X1.toArray 93 → ∀ ty, (Builtin.clear_ #[23] ty #[.slice (some ⟨g, (i + (n - (i + 1))) * 6, none⟩) (n - (i + (n - (i + 1)))) (cap - (i + (n - (i + 1))))]).run Tryz.prog W = .ok (.tuple #[]) (W.setRow g X2.toArray) := fun W hW ty => by
    rw [hX2]
    rw [show n - (i + (n - (i + 1))) = 1 by omega, show i + (n - (i + 1)) = n - 1 by omega]
    rw [run_clear6 W _ _ ty _ (cP (0, 0, 0, 0, 0, 0)) Tryz.underlying23 zero_vP rfl rfl (c6P.one _) g ((n - 1) * 6) _ X1 _ hW (by rw [hX1l]; omega), show (n - 1) * 6 + 6 = n * 6 by omega]
  have HFIN := Lib.hid (show X2 = flat cP (l.take i ++ l.drop (i + 1)) ++ (cP (0, 0, 0, 0, 0, 0) ++ X1.drop (n * 6)) by
    rw [hX2, List.append_assoc]
    congr 1
    rw [hX1, flat_app]
    exact List.take_left' (by simp [flat_len c6P, hnl]; omega))
  have HX1L := Lib.hid hX1l
  have HB := Lib.hid hb
  have HAP := Lib.hid hap
  have HCL := Lib.hid hcl
  have HNL := Lib.hid hnl
  have hin : (i : Int) + 1 ≤ n := by omega
  have hne : ((i : Int) == (i : Int) + 1) = false := by rw [beq_eq_false_iff_ne]; omega
  have hin2 : (n : Int) ≤ cap := by omega
  have HL2 := Lib.hid (show (l.take i ++ l.drop (i + 1)).length = n - 1 by rw [List.length_append, List.length_take, List.length_drop, hnl]; omega)
  clear hX2 hX1 hX1l hb hap hcl hsrc hD hlen2 hsp h hz0 hz1 hz2 hi0
  go_enter Tryz.func223, Tryz.ntmps223
  go_upto_region 5 with fail
  refine wp_region_held_drew (S := fun Vx => Kep (fun b => b = g) w Vx) (by kernel_rfl) (Kep.drew (Kep.refl _ _)) (fun hS0 => ?_)
  have HW6 := Lib.hid (show Bel w w.drew from (Bel.refl _).drew)
  obtain ⟨w6, hw6⟩ : ∃ w6, World.drew w = w6 := ⟨_, rfl⟩
  rw [hw6] at hS0 HW6 ⊢
  clear hw6
  refine ztk 0 { dst := some 20, op := .move (.tmp 0), type := 23, pos := "slices.go:232", after := #[], guard := none } (.slice (some ⟨g, 0, none⟩) n cap) (Or.inl ⟨by rfl, by intro w hSw; clear hSw; go_simp⟩) hS0 ?_
  try simp only [Act.put, zq1, zq2, zq3]
  refine ztk 1 { dst := some 21, op := .move (.tmp 1), type := 3, pos := "slices.go:232", after := #[], guard := none } (.int .i64 i) (Or.inl ⟨by rfl, by intro w hSw; clear hSw; go_simp⟩) hS0 ?_
  try simp only [Act.put, zq1, zq2, zq3]
  refine ztk 2 { dst := some 22, op := .slice 23 (.tmp 20) none (some (.tmp 21)) none, type := 23, pos := "slices.go:232", after := #[{ on := 0, ground := .data }, { on := 1, ground := .data }], guard := none } (.slice (some ⟨g, 0, none⟩) i cap) (Or.inl ⟨by rfl, by intro w hSw; clear hSw; go_simp⟩) hS0 ?_
  try simp only [Act.put, zq1, zq2, zq3]
  refine ztk 3 { dst := some 23, op := .move (.tmp 0), type := 23, pos := "slices.go:232", after := #[], guard := none } (.slice (some ⟨g, 0, none⟩) n cap) (Or.inl ⟨by rfl, by intro w hSw; clear hSw; go_simp⟩) hS0 ?_
  try simp only [Act.put, zq1, zq2, zq3]
  refine ztk 4 { dst := some 24, op := .move (.tmp 2), type := 3, pos := "slices.go:232", after := #[], guard := none } (.int .i64 ((i : Int) + 1)) (Or.inl ⟨by rfl, by intro w hSw; clear hSw; go_simp⟩) hS0 ?_
  try simp only [Act.put, zq1, zq2, zq3]
  refine ztk 5 { dst := some 25, op := .slice 23 (.tmp 23) (some (.tmp 24)) none none, type := 23, pos := "slices.go:232", after := #[{ on := 3, ground := .data }, { on := 4, ground := .data }], guard := none } (.slice (some D) (n - (i + 1)) (cap - (i + 1))) (Or.inl ⟨by rfl, by intro w hSw; clear hSw; go_simp⟩) hS0 ?_
  try simp only [Act.put, zq1, zq2, zq3]
  refine wpAnyH_ready (rs := [6]) (by kernel_rfl) (by simp) ?_
  refine AllReadyH.cons (o := { dst := some 26, op := .call { callee := .builtin .append, args := #[.tmp 22, .tmp 25], argTypes := #[23, 23] }, type := 23, pos := "slices.go:232", after := #[{ on := 2, ground := .data }, { on := 5, ground := .data }], guard := none }) rfl (fun K hK => ?_) AllReadyH.nil
  refine step_append_run rfl (.tmp 22) (.tmp 25) 23 23 rfl _ _ (by simp [Act.eval, Act.put]) (by simp [Act.eval, Act.put]) (HAP.out w6 HW6.out _) ?_
  refine hK.out _ _ (hS0.trans (kep_setRow _ _ _)) (fun hS1 => ?_)
  clear hK K
  try simp only [Act.put, zq1, zq2, zq3]
  refine ztk 7 { dst := some 0, op := .assign (.tmp 26), type := 23, pos := "slices.go:232", after := #[{ on := 6, ground := .data }, { on := 6, ground := .chain }, { on := 0, ground := .phase }, { on := 1, ground := .phase }, { on := 2, ground := .phase }, { on := 3, ground := .phase }, { on := 4, ground := .phase }, { on := 5, ground := .phase }, { on := 6, ground := .phase }], guard := none } (.slice (some ⟨g, 0, none⟩) (i + (n - (i + 1))) cap) (Or.inl ⟨by rfl, by intro w hSw; clear hSw; go_simp⟩) hS1 ?_
  try simp only [Act.put, zq1, zq2, zq3]
  refine wpAnyH_done (by kernel_rfl) ?_ _
  have HE := Lib.hid hS1
  have HB1 := Lib.hid (blk_setRow (HB.out.bel HW6.out) X1.toArray)
  obtain ⟨W1, hW1⟩ : ∃ W1, w6.setRow g X1.toArray = W1 := ⟨_, rfl⟩
  rw [hW1] at HE HB1 ⊢
  clear hW1 hS0
  have hle : ((i + (n - (i + 1)) : Nat) : Int) ≤ n := by omega
  go_wp2_with ((with_reducible refine wpList_clear_run rfl _ 23 rfl _ rfl (HCL.out W1 HB1.out _) ?_))
  go_ret
  refine ⟨by rw [show n - 1 = i + (n - (i + 1)) by omega]; rfl, ?_, HE.out.trans (kep_setRow _ _ _)⟩
  have hB2 := blk_setRow HB1.out X2.toArray
  exact rb_mk c6P (w := W1.setRow g X2.toArray) (by rw [← HFIN.out]; exact hB2) (by rw [HL2.out, List.length_append, List.length_drop, c6P.len, HX1L.out]; omega) (by rw [HL2.out]; omega)
end Ho
end Go.Proofs.YtneajcoiemkfbaaGreat
end

section
/-
  What slices.Insert makes of a list of one's own, of classes and of positions: one row put in. Conditions: at most a billion rows; the new row lies in a block of its own.
-/
namespace Go.Proofs.YtneajcoiemkfbaaGreat
open Go.RowKit Go.Shelf
set_option linter.unusedVariables false
set_option linter.unusedSimpArgs false
namespace Ho
open Kk Pm

theorem own_rb {k : R6 → List Value} {t : TypeId} {w : World} {base g cap : Nat} {l : List R6} (h : RB k t w g l cap) (hb : base ≤ g) (hm : cap ≤ maxLen) : OwnR k t w base (.slice (some ⟨g, 0, none⟩) l.length cap) l := by
  obtain ⟨cur, h1, h2, h3⟩ := h.blk
  exact ⟨by rw [← h2]; have := h.cap; simp [h3]; omega, .inr ⟨g, cap, cur, rfl, hb, h1, h.cap, hm, h3, h2⟩⟩
theorem shape_blk {w : World} {g : Nat} {cur : Array Value} {t : TypeId} (h : Blk w g cur t) : w.shape? g = some (t, cur.size) := by
  unfold World.shape?
  rw [show w.heap[g]? = _ from h]
/-- Three pieces. -/
theorem cut3 {α : Type} (P S sp X : List α) (a : Nat) (hP : P.length = a) (hX : X.length = 6) (hS : 6 ≤ S.length + sp.length) :
    ((P ++ S ++ sp).take (a + 6) ++ S ++ (P ++ S ++ sp).drop (a + 6 + S.length)).take a ++ X ++ ((P ++ S ++ sp).take (a + 6) ++ S ++ (P ++ S ++ sp).drop (a + 6 + S.length)).drop (a + 6) = P ++ X ++ S ++ (P ++ S ++ sp).drop (a + 6 + S.length) := by
  have h1 : ((P ++ S ++ sp).take (a + 6)).length = a + 6 := by simp; omega
  obtain ⟨T, hT⟩ : ∃ T, (P ++ S ++ sp).take (a + 6) = T := ⟨_, rfl⟩
  have h2 : T.take a = P := by
    rw [← hT, List.take_take, Nat.min_eq_left (by omega), List.append_assoc, List.take_left' hP]
  rw [hT] at h1 ⊢
  rw [List.append_assoc T, List.take_append_of_le_length (by omega), h2, List.drop_left' h1]
  simp only [List.append_assoc]
theorem cut2 {α : Type} (P Z X S : List α) (a : Nat) (hP : P.length = a) (hX : X.length = 6) (hZ : 6 + S.length ≤ Z.length) :
    ((P ++ Z).take a ++ X ++ (P ++ Z).drop (a + 6)).take (a + 6) ++ S ++ ((P ++ Z).take a ++ X ++ (P ++ Z).drop (a + 6)).drop (a + 6 + S.length) = P ++ X ++ S ++ Z.drop (6 + S.length) := by
  rw [List.take_left' hP, show (P ++ Z).drop (a + 6) = Z.drop 6 by rw [← hP, List.drop_append]; simp]
  rw [List.take_left' (by simp; omega), show (P ++ X ++ Z.drop 6).drop (a + 6 + S.length) = Z.drop (6 + S.length) by
    have : a + 6 + S.length = (P ++ X).length + S.length := by simp; omega
    rw [this, List.drop_append]
    simp [Nat.add_comm]]

theorem slice_ltC (g n cap i : Nat) (w : World) (h : i ≤ n) (hc : i < cap) : (Instr.slice 22 (.slice (some ⟨g, 0, none⟩) n cap) (some (.int .i64 i)) none none).run Tryz.prog w = .ok (.slice (some ⟨g, i * 6, none⟩) (n - i) (cap - i)) w := by
  have e : Tryz.prog.elem 22 = 90 := by kernel_rfl
  rw [run_slice_l (P := Tryz.prog) (w := w) (t := 22) (a := some ⟨g, 0, none⟩) (len := n) (cap := cap) (by rw [e]; exact Tryz.underlying22) .i64 i (by omega) (by omega), e]
  simp [Tryz.sizeOf90, Result.andThen, sliced, add_at, show ¬ cap = i by omega]
theorem overlapsC (w : World) (xb g o : Nat) (X Y : Array Value) (la ca lb cb : Nat) (hx : Blk w xb X 90) (hg : Blk w g Y 90) (hne : xb ≠ g) (hY : Y.size ≠ 0) :
    (callFunc 234 #[.slice (some ⟨xb, 0, none⟩) la ca, .slice (some ⟨g, o, none⟩) lb cb]).run Tryz.prog w = .ok (.value (.bool false)) w := by
  rw [run_callFunc_extern Tryz.func234 (by kernel_rfl) (by kernel_rfl) (by kernel_rfl) (e := Extern.SlicesOverlaps.overlaps #[22, 22] #[4]) (by kernel_rfl),
    Lib.run_overlaps_apart w 22 4 90 Tryz.underlying22 6 (fun w => by simp [Tryz.sizeOf90]) ⟨xb, 0, none⟩ ⟨g, o, none⟩ la ca lb cb hne _ _ _ _ (shape_blk hx) (shape_blk hg) hY (hx.frozen 0) (hx.frozen _)]
  rfl
set_option maxRecDepth 100000 in
set_option maxHeartbeats 4000000 in
/-- Behind all. -/
theorem insert_endC (v : Value) (l : List R6) (x : R6) (base xb : Nat) (w : World) (h : OwnR cC 90 w base v l) (hn : l.length ≤ 1000000000) (hx : Blk w xb (cC x).toArray 90) (hb : base ≤ w.heap.size) :
    Calls Tryz.prog 233 #[v, .int .i64 l.length, .slice (some ⟨xb, 0, none⟩) 1 1] w fun e w' => ∃ v', e = .returned v' ∧ OwnR cC 90 w' base v' (l ++ [x]) ∧ Kep (fun b => v.ownBlock = some b) w w' := by
  obtain ⟨A, c, rfl, hrs, hcm, _⟩ := h.rs c6C
  obtain ⟨n, hnl⟩ : ∃ n, l.length = n := ⟨_, rfl⟩
  have HNL := Lib.hid hnl
  rw [hnl] at h hrs hn ⊢
  have HO := Lib.hid h
  have HX := Lib.hid (show RS cC w (some ⟨xb, 0, none⟩) 1 1 [x] from rs_blk c6C hx rfl (Nat.le_refl _) (by simpa [flat] using List.take_of_length_le (by rw [c6C.len]; exact Nat.le_refl _)))
  have hcap := hrs.cap
  obtain ⟨D, hsl⟩ : ∃ D, ∀ W, (Instr.slice 22 (.slice A n c) (some (.int .i64 n)) none none).run Tryz.prog W = .ok (.slice D (n - n) (c - n)) W := by
    have e : Tryz.prog.elem 22 = 90 := by kernel_rfl
    refine ⟨(if c = n then A else A.map (·.add (n * 6))), fun W => ?_⟩
    rw [run_slice_l (P := Tryz.prog) (w := W) (t := 22) (a := A) (len := n) (cap := c) (by rw [e]; exact Tryz.underlying22) .i64 n (by omega) (by omega), e]
    simp [Tryz.sizeOf90, Result.andThen, sliced]
  clear h hrs hx hnl
  go_enter Tryz.func233, Tryz.ntmps233
  go_wp2_with (at_builtin; refine wpList_append_C rfl _ _ rfl base _ l rfl HO.out (some ⟨xb, 0, none⟩) 1 1 [x] rfl HX.out (by rw [HNL.out]; omega) hb ?_; intro v' w1 hown' hgrow)
  have HO2 := Lib.hid hown'
  have HK := Lib.hid (Kep.grown (S := fun b => (Value.slice A n c).ownBlock = some b) (Kep.refl _ w) hgrow (fun k e _ => e))
  clear hown' hgrow
  go_wp2
  go_ret
  exact ⟨_, rfl, HO2.out, HK.out⟩
set_option maxRecDepth 100000 in
set_option maxHeartbeats 8000000 in
/-- Between others, where there is room. -/
theorem insert_roomC (g cap i : Nat) (l : List R6) (x : R6) (xb : Nat) (w : World) (h : RB cC 90 w g l cap) (hi : i < l.length) (hn : l.length ≤ 1000000000) (hm : cap ≤ maxLen) (hroom : l.length < cap) (hx : Blk w xb (cC x).toArray 90) (hne : xb ≠ g) :
    Calls Tryz.prog 233 #[.slice (some ⟨g, 0, none⟩) l.length cap, .int .i64 i, .slice (some ⟨xb, 0, none⟩) 1 1] w fun e w' => e = .returned (.slice (some ⟨g, 0, none⟩) (l.length + 1) cap) ∧ RB cC 90 w' g (l.take i ++ x :: l.drop i) cap ∧ Kep (fun b => b = g) w w' := by
  obtain ⟨n, hnl⟩ : ∃ n, l.length = n := ⟨_, rfl⟩
  obtain ⟨sp, hb, hsp⟩ := rb_list c6C h
  rw [hnl] at hi hn hroom hsp ⊢
  unfold maxLen at hm
  have hPS : flat cC l = flat cC (l.take i) ++ flat cC (l.drop i) := by rw [← flat_app, List.take_append_drop]
  have hPl : (flat cC (l.take i)).length = i * 6 := by rw [flat_len c6C, List.length_take, hnl]; omega
  have hSl : (flat cC (l.drop i)).length = (n - i) * 6 := by rw [flat_len c6C, List.length_drop, hnl]
  have hXl := c6C.len x
  rw [hPS] at hb
  obtain ⟨P, hP⟩ : ∃ P, flat cC (l.take i) = P := ⟨_, rfl⟩
  obtain ⟨S, hS⟩ : ∃ S, flat cC (l.drop i) = S := ⟨_, rfl⟩
  have hS1 : ∀ u ∈ S, u.oneCell' = true := by rw [← hS]; exact flat_one c6C _
  have HSX := Lib.hid (show flat cC (l.take i ++ x :: l.drop i) = P ++ cC x ++ S by rw [flat_app, ← hP, ← hS]; show _ ++ (cC x ++ flat cC (l.drop i)) = _; rw [List.append_assoc])
  have HLL := Lib.hid (show (l.take i ++ x :: l.drop i).length = n + 1 by simp [hnl]; omega)
  rw [hP] at hb hPl
  rw [hS] at hb hSl
  obtain ⟨Y, hY⟩ : ∃ Y, Y = P ++ S ++ sp := ⟨_, rfl⟩
  have hYl : Y.length = cap * 6 := by rw [hY]; simp [hPl, hSl, hsp]; omega
  obtain ⟨Y1, hY1⟩ : ∃ Y1, Y1 = Y.take (i * 6 + 6) ++ S ++ Y.drop (i * 6 + 6 + S.length) := ⟨_, rfl⟩
  have hY1l : Y1.length = cap * 6 := by rw [hY1]; simp [hYl, hSl]; omega
  obtain ⟨Y2, hY2⟩ : ∃ Y2, Y2 = Y1.take (i * 6) ++ cC x ++ Y1.drop (i * 6 + 6) := ⟨_, rfl⟩
  have HY2 := Lib.hid (show Y2 = flat cC (l.take i ++ x :: l.drop i) ++ Y.drop (i * 6 + 6 + S.length) by
    rw [hY2, hY1, hY, cut3 P S sp (cC x) (i * 6) hPl hXl (by rw [hSl, hsp]; omega), ← HSX.out])
  have hb : Blk w g Y.toArray 90 := by rw [hY]; exact hb
  have hcp1 : ∀ W, Bel w W → ∀ ty, (Builtin.copy_ #[22, 22] ty #[.slice (some ⟨g, (i + 1) * 6, none⟩) (n + 1 - (i + 1)) (cap - (i + 1)), .slice (some ⟨g, i * 6, none⟩) (n + 1 - i) (cap - i)]).run Tryz.prog W = .ok (goInt (n - i : Nat)) (W.setRow g Y1.toArray) := fun W hW ty => by
    have hmin : Nat.min (n + 1 - i) (n + 1 - (i + 1)) = n - i := by show min _ _ = _; omega
    have hr := run_copy6 W 22 22 ty 90 g ((i + 1) * 6) (n + 1 - (i + 1)) (cap - (i + 1)) ⟨g, i * 6, none⟩ (n + 1 - i) (cap - i) Y _ S Tryz.underlying22 info_c (hb.bel hW) (by rw [hmin, hSl]) (fun j u hj => by
      rw [add_at]
      refine (hb.bel hW).cell _ ?_
      have hj2 := (List.getElem?_eq_some_iff.1 hj).1
      rw [List.getElem?_toArray, hY, List.append_assoc, List.getElem?_append_right (by omega), hPl, Nat.add_sub_cancel_left, List.getElem?_append_left hj2]
      exact hj) (by rw [hYl, hSl]; omega) hS1
    rw [hr, hmin, hY1, show (i + 1) * 6 = i * 6 + 6 by omega]
  have hcp2 : ∀ W, Blk W g Y1.toArray 90 → Blk W xb (cC x).toArray 90 → ∀ ty, (Builtin.copy_ #[22, 22] ty #[.slice (some ⟨g, i * 6, none⟩) (n + 1 - i) (cap - i), .slice (some ⟨xb, 0, none⟩) 1 1]).run Tryz.prog W = .ok (goInt (1 : Nat)) (W.setRow g Y2.toArray) := fun W hW hxW ty => by
    have hmin : Nat.min 1 (n + 1 - i) = 1 := by show min _ _ = _; omega
    have hr := run_copy6 W 22 22 ty 90 g (i * 6) (n + 1 - i) (cap - i) ⟨xb, 0, none⟩ 1 1 Y1 _ (cC x) Tryz.underlying22 info_c hW (by rw [hmin, hXl]) (fun j u hj => by
      rw [add_at, Nat.zero_add]
      exact hxW.cell _ (by simpa using hj)) (by rw [hY1l, hXl]; omega) (c6C.one x)
    rw [hr, hmin, hY2, hXl]
  have hov := fun W (hW : Bel w W) lb cb => overlapsC W xb g ((i + 1) * 6) _ _ 1 1 lb cb (hx.bel hW) (hb.bel hW) hne (by simp [hYl]; omega)
  have hov := hov w (Bel.refl _)
  have hs1 := fun W => slice_hrC g n cap (n + 1) W (by omega)
  have hs2 := fun W => slice_ltC g (n + 1) cap (i + 1) W (by omega) (by omega)
  have hs3 := fun W => slice_ltC g (n + 1) cap i W (by omega) (by omega)
  have hs4 := fun W => slice_ltC g n cap i W (by omega) (by omega)
  push_cast at hs1 hs2
  have HCP1 := Lib.hid hcp1
  have HCP2 := Lib.hid hcp2
  have HB := Lib.hid hb
  have HXB := Lib.hid hx
  have HYL := Lib.hid hYl
  have HSL := Lib.hid hSl
  have HNE := Lib.hid hne
  have hin : (i : Int) < n := by omega
  have hie : ((i : Int) == (n : Int)) = false := by rw [beq_eq_false_iff_ne]; omega
  have hroom3 : (n : Int) + 1 ≤ cap := by omega
  have hd : decide ((cap : Int) < (n : Int) + 1) = false := decide_eq_false (by omega)
  clear hcp1 hcp2 hb hx hYl hSl hY hY1 hY1l hY2 hP hS hS1 hPl hPS hXl hne hsp h hnl
  go_enter Tryz.func233, Tryz.ntmps233
  go_upto_region 15 with (simp only [hov])
  have hwr : IntKind.i64.wrap ((i : Int) + 1) = (i : Int) + 1 := IntWalk.i64_in _ ⟨by omega, by omega⟩
  refine wp_region_held_drew (S := fun Vx => Kep (fun b => b = g) w Vx) (by kernel_rfl) (Kep.drew (Kep.refl _ _)) (fun hS0 => ?_)
  have HW6 := Lib.hid (show Bel w w.drew from (Bel.refl _).drew)
  obtain ⟨w6, hw6⟩ : ∃ w6, World.drew w = w6 := ⟨_, rfl⟩
  rw [hw6] at hS0 HW6 ⊢
  clear hw6
  refine ztk 0 { dst := some 69, op := .move (.tmp 0), type := 22, pos := "slices.go:178", after := #[], guard := none } (.slice (some ⟨g, 0, none⟩) (n + 1) cap) (Or.inl ⟨by rfl, by intro w hSw; clear hSw; go_simp⟩) hS0 ?_
  try simp only [Act.put, zq1, zq2, zq3]
  refine ztk 1 { dst := some 70, op := .move (.tmp 1), type := 3, pos := "slices.go:178", after := #[], guard := none } (.int .i64 i) (Or.inl ⟨by rfl, by intro w hSw; clear hSw; go_simp⟩) hS0 ?_
  try simp only [Act.put, zq1, zq2, zq3]
  refine ztk 2 { dst := some 71, op := .move (.tmp 7), type := 3, pos := "slices.go:178", after := #[], guard := none } (.int .i64 1) (Or.inl ⟨by rfl, by intro w hSw; clear hSw; go_simp⟩) hS0 ?_
  try simp only [Act.put, zq1, zq2, zq3]
  refine ztk 3 { dst := some 72, op := .binOp .add 3 (.tmp 70) (.tmp 71) 3, type := 3, pos := "slices.go:178", after := #[{ on := 1, ground := .data }, { on := 2, ground := .data }], guard := none } (.int .i64 ((i : Int) + 1)) (Or.inl ⟨by rfl, by intro w hSw; clear hSw; go_simp⟩) hS0 ?_
  try simp only [Act.put, zq1, zq2, zq3]
  refine ztk 4 { dst := some 73, op := .slice 22 (.tmp 69) (some (.tmp 72)) none none, type := 22, pos := "slices.go:178", after := #[{ on := 0, ground := .data }, { on := 3, ground := .data }], guard := none } (.slice (some ⟨g, (i + 1) * 6, none⟩) (n + 1 - (i + 1)) (cap - (i + 1))) (Or.inl ⟨by rfl, by intro w hSw; clear hSw; go_simp⟩) hS0 ?_
  try simp only [Act.put, zq1, zq2, zq3]
  refine ztk 5 { dst := some 74, op := .move (.tmp 0), type := 22, pos := "slices.go:178", after := #[], guard := none } (.slice (some ⟨g, 0, none⟩) (n + 1) cap) (Or.inl ⟨by rfl, by intro w hSw; clear hSw; go_simp⟩) hS0 ?_
  try simp only [Act.put, zq1, zq2, zq3]
  refine ztk 6 { dst := some 75, op := .move (.tmp 1), type := 3, pos := "slices.go:178", after := #[], guard := none } (.int .i64 i) (Or.inl ⟨by rfl, by intro w hSw; clear hSw; go_simp⟩) hS0 ?_
  try simp only [Act.put, zq1, zq2, zq3]
  refine ztk 7 { dst := some 76, op := .slice 22 (.tmp 74) (some (.tmp 75)) none none, type := 22, pos := "slices.go:178", after := #[{ on := 5, ground := .data }, { on := 6, ground := .data }], guard := none } (.slice (some ⟨g, i * 6, none⟩) (n + 1 - i) (cap - i)) (Or.inl ⟨by rfl, by intro w hSw; clear hSw; go_simp⟩) hS0 ?_
  try simp only [Act.put, zq1, zq2, zq3]
  refine wpAnyH_ready (rs := [8]) (by kernel_rfl) (by simp) ?_
  refine AllReadyH.cons (o := { dst := some 77, op := .call { callee := .builtin .copy, args := #[.tmp 73, .tmp 76], argTypes := #[22, 22] }, type := 3, pos := "slices.go:178", after := #[{ on := 4, ground := .data }, { on := 7, ground := .data }], guard := none }) rfl (fun K hK => ?_) AllReadyH.nil
  refine step_copy_run rfl (.tmp 73) (.tmp 76) 22 22 rfl _ _ (by simp [Act.eval, Act.put]) (by simp [Act.eval, Act.put]) (HCP1.out w6 HW6.out _) ?_
  refine hK.out _ _ (hS0.trans (kep_setRow _ _ _)) (fun hS1 => ?_)
  clear hK K
  try simp only [Act.put, zq1, zq2, zq3]
  refine wpAnyH_done (by kernel_rfl) ?_ _
  have HE := Lib.hid hS1
  have HB1 := Lib.hid (blk_setRow (HB.out.bel HW6.out) Y1.toArray)
  have HX1 := Lib.hid ((HXB.out.bel HW6.out).kep (kep_setRow w6 g Y1.toArray) HNE.out)
  obtain ⟨W1, hW1⟩ : ∃ W1, w6.setRow g Y1.toArray = W1 := ⟨_, rfl⟩
  rw [hW1] at HE HB1 HX1 ⊢
  clear hW1 hS0 hwr
  go_wp2_with ((with_reducible refine wpList_copy_run rfl _ _ 22 22 rfl _ _ rfl rfl (HCP2.out W1 HB1.out HX1.out _) ?_))
  go_ret
  exact ⟨rfl, rb_mk c6C (w := W1.setRow g Y2.toArray) (by rw [← HY2.out]; exact blk_setRow HB1.out _) (by rw [HLL.out, List.length_drop, HYL.out, HSL.out]; omega) (by rw [HLL.out]; omega), HE.out.trans (kep_setRow _ _ _)⟩
set_option maxRecDepth 100000 in
set_option maxHeartbeats 8000000 in
/-- Between others, where there is no room. -/
theorem insert_growC (g cap i : Nat) (l : List R6) (x : R6) (xb : Nat) (w : World) (h : RB cC 90 w g l cap) (hi : i < l.length) (hn : l.length ≤ 1000000000) (hm : cap ≤ maxLen) (hroom : ¬ l.length < cap) (hx : Blk w xb (cC x).toArray 90) :
    Calls Tryz.prog 233 #[.slice (some ⟨g, 0, none⟩) l.length cap, .int .i64 i, .slice (some ⟨xb, 0, none⟩) 1 1] w fun e w' => ∃ g2 cap2, e = .returned (.slice (some ⟨g2, 0, none⟩) (l.length + 1) cap2) ∧ RB cC 90 w' g2 (l.take i ++ x :: l.drop i) cap2 ∧ Bel w w' ∧ w.heap.size ≤ g2 ∧ cap2 ≤ maxLen := by
  obtain ⟨n, hnl⟩ : ∃ n, l.length = n := ⟨_, rfl⟩
  have hcp0 := h.cap
  obtain ⟨sp, hb, hsp⟩ := rb_list c6C h
  rw [hnl] at hi hn hroom hsp hcp0 ⊢
  obtain rfl : cap = n := by omega
  have hspe : sp = [] := List.length_eq_zero_iff.1 (by rw [hsp]; omega)
  subst hspe
  rw [List.append_nil] at hb
  obtain ⟨i0, hi0, hz0, hz1, hz2⟩ := info_parts zero_c
  have hPS : flat cC l = flat cC (l.take i) ++ flat cC (l.drop i) := by rw [← flat_app, List.take_append_drop]
  have hPl : (flat cC (l.take i)).length = i * 6 := by rw [flat_len c6C, List.length_take, hnl]; omega
  have hSl : (flat cC (l.drop i)).length = (cap - i) * 6 := by rw [flat_len c6C, List.length_drop, hnl]
  have hXl := c6C.len x
  rw [hPS] at hb
  obtain ⟨P, hP⟩ : ∃ P, flat cC (l.take i) = P := ⟨_, rfl⟩
  obtain ⟨S, hS⟩ : ∃ S, flat cC (l.drop i) = S := ⟨_, rfl⟩
  have hS1 : ∀ u ∈ S, u.oneCell' = true := by rw [← hS]; exact flat_one c6C _
  have HSX := Lib.hid (show flat cC (l.take i ++ x :: l.drop i) = P ++ cC x ++ S by rw [flat_app, ← hP, ← hS]; show _ ++ (cC x ++ flat cC (l.drop i)) = _; rw [List.append_assoc])
  have HLL := Lib.hid (show (l.take i ++ x :: l.drop i).length = cap + 1 by simp [hnl]; omega)
  rw [hP] at hb hPl
  rw [hS] at hb hSl
  obtain ⟨k, hk⟩ : ∃ k, cap + 1 - i = k := ⟨_, rfl⟩
  have hkk : i + k = cap + 1 := by omega
  have hge := grownCap_ge w (cap + 1) cap 90
  have hle := grownCap_le_maxLen w (cap + 1) cap 90 (by unfold maxLen; omega)
  have hgr : ∀ ty, (Builtin.append_ #[22, 3] ty #[.slice (some ⟨g, 0, none⟩) i cap, .int .i64 k]).run Tryz.prog w = _ := fun ty =>
    Lib.run_append_grow_zeros w 22 3 ty 90 i0 _ .i64 .i64 Tryz.underlying22 Tryz.underlying3 hi0 hz0 (some ⟨g, 0, none⟩) i cap P
      (run_firstCells_some (P := Tryz.prog) w.drew i0.size i ⟨g, 0, none⟩ i cap P (by rw [hz1, hPl]) (fun j u hj => by
        rw [add_at, Nat.zero_add]
        refine (hb.bel ((Bel.refl w).drew)).cell _ ?_
        rw [List.getElem?_toArray, List.getElem?_append_left (List.getElem?_eq_some_iff.1 hj).1]
        exact hj)) k (by omega) (by omega) (by omega) (by omega) (by rw [hz2]; omega) (by rw [hz2]; exact growslice_fits (by omega) (by omega))
  rw [hkk] at hgr
  obtain ⟨c2, hc2⟩ : ∃ c2, grownCap w (cap + 1) cap 90 = c2 := ⟨_, rfl⟩
  rw [hc2] at hgr hge hle
  obtain ⟨Z, hZ⟩ : ∃ Z : List Value, Z = (Builtin.zeroCells (Value.agg (cC (0, 0, 0, 0, 0, 0)).toArray).cells k ++ Builtin.zeroCells (Value.agg (cC (0, 0, 0, 0, 0, 0)).toArray).cells (c2 - (cap + 1))).toList := ⟨_, rfl⟩
  have hZl : Z.length = (c2 - i) * 6 := by
    rw [hZ, Array.length_toList, Array.size_append, size_zeroCells, size_zeroCells]
    show k * (cC (0, 0, 0, 0, 0, 0)).toArray.size + (c2 - (cap + 1)) * (cC (0, 0, 0, 0, 0, 0)).toArray.size = _
    rw [List.size_toArray, c6C.len]
    omega
  have hgr : ∀ ty, (Builtin.append_ #[22, 3] ty #[.slice (some ⟨g, 0, none⟩) i cap, .int .i64 k]).run Tryz.prog w = .ok (.slice (some ⟨w.heap.size, 0, none⟩) (cap + 1) c2) (w.drew.alloc (.cells (P ++ Z).toArray 90)) := fun ty => by
    rw [hgr ty, hZ]
    congr 3
    simp
  obtain ⟨Y0, hY0⟩ : ∃ Y0, Y0 = P ++ Z := ⟨_, rfl⟩
  rw [← hY0] at hgr
  have hY0l : Y0.length = c2 * 6 := by rw [hY0]; simp [hPl, hZl]; omega
  obtain ⟨Y1, hY1⟩ : ∃ Y1, Y1 = Y0.take (i * 6) ++ cC x ++ Y0.drop (i * 6 + 6) := ⟨_, rfl⟩
  have hY1l : Y1.length = c2 * 6 := by rw [hY1]; simp [hY0l, hXl]; omega
  obtain ⟨Y2, hY2⟩ : ∃ Y2, Y2 = Y1.take (i * 6 + 6) ++ S ++ Y1.drop (i * 6 + 6 + S.length) := ⟨_, rfl⟩
  have HY2 := Lib.hid (show Y2 = flat cC (l.take i ++ x :: l.drop i) ++ Z.drop (6 + S.length) by
    rw [hY2, hY1, hY0, cut2 P Z (cC x) S (i * 6) hPl hXl (by rw [hSl, hZl]; omega), ← HSX.out])
  obtain ⟨g2, hg2⟩ : ∃ g2, w.heap.size = g2 := ⟨_, rfl⟩
  rw [hg2] at hgr
  obtain ⟨W0, hW0⟩ : ∃ W0, w.drew.alloc (.cells Y0.toArray 90) = W0 := ⟨_, rfl⟩
  have BW0 : Bel w W0 := by rw [← hW0]; exact ((Bel.refl w).drew).alloc _
  have hb0 : Blk W0 g2 Y0.toArray 90 := by rw [← hW0, ← hg2]; exact Blk.new w.drew _ _
  rw [hW0] at hgr
  have hgg : g ≠ g2 := by have := hb.lt; omega
  have hcp1 : ∀ ty, (Builtin.copy_ #[22, 22] ty #[.slice (some ⟨g2, i * 6, none⟩) (cap + 1 - i) (c2 - i), .slice (some ⟨xb, 0, none⟩) 1 1]).run Tryz.prog W0 = .ok (goInt (1 : Nat)) (W0.setRow g2 Y1.toArray) := fun ty => by
    have hmin : Nat.min 1 (cap + 1 - i) = 1 := by show min _ _ = _; omega
    have hr := run_copy6 W0 22 22 ty 90 g2 (i * 6) (cap + 1 - i) (c2 - i) ⟨xb, 0, none⟩ 1 1 Y0 _ (cC x) Tryz.underlying22 info_c hb0 (by rw [hmin, hXl]) (fun j u hj => by
      rw [add_at, Nat.zero_add]
      exact (hx.bel BW0).cell _ (by simpa using hj)) (by rw [hY0l, hXl]; omega) (c6C.one x)
    rw [hr, hmin, hY1, hXl]
  have hb1 := blk_setRow hb0 Y1.toArray
  have hbg : Blk (W0.setRow g2 Y1.toArray) g (P ++ S).toArray 90 := (hb.bel BW0).kep (kep_setRow W0 g2 _) hgg
  have HK1 := Lib.hid (kep_setRow W0 g2 Y1.toArray)
  obtain ⟨W1, hW1⟩ : ∃ W1, W0.setRow g2 Y1.toArray = W1 := ⟨_, rfl⟩
  rw [hW1] at hcp1 hb1 hbg HK1
  have hcp2 : ∀ W, Bel W1 W → ∀ ty, (Builtin.copy_ #[22, 22] ty #[.slice (some ⟨g2, (i + 1) * 6, none⟩) (cap + 1 - (i + 1)) (c2 - (i + 1)), .slice (some ⟨g, i * 6, none⟩) (cap - i) (cap - i)]).run Tryz.prog W = .ok (goInt (cap - i : Nat)) (W.setRow g2 Y2.toArray) := fun W hW ty => by
    have hmin : Nat.min (cap - i) (cap + 1 - (i + 1)) = cap - i := by show min _ _ = _; omega
    have hr := run_copy6 W 22 22 ty 90 g2 ((i + 1) * 6) (cap + 1 - (i + 1)) (c2 - (i + 1)) ⟨g, i * 6, none⟩ (cap - i) (cap - i) Y1 _ S Tryz.underlying22 info_c (hb1.bel hW) (by rw [hmin, hSl]) (fun j u hj => by
      rw [add_at]
      refine (hbg.bel hW).cell _ ?_
      rw [List.getElem?_toArray, List.getElem?_append_right (by omega), hPl, Nat.add_sub_cancel_left]
      exact hj) (by rw [hY1l, hSl]; omega) hS1
    rw [hr, hmin, hY2, show (i + 1) * 6 = i * 6 + 6 by omega]
  have hs1 := fun W => slice_hrC g cap cap i W (by omega)
  have hs2 := fun W => slice_ltC g2 (cap + 1) c2 i W (by omega) (by omega)
  have hs3 := fun W => slice_ltC g2 (cap + 1) c2 (i + 1) W (by omega) (by omega)
  have hs4 := fun W => slice_ltC g cap cap i W (by omega) (by omega)
  push_cast at hs3
  have hki : (cap : Int) + 1 - (i : Int) = (k : Int) := by omega
  have HCP1 := Lib.hid hcp1
  have HCP2 := Lib.hid hcp2
  have HGR := Lib.hid hgr
  have HB1 := Lib.hid hb1
  have HYL := Lib.hid hZl
  have HSL := Lib.hid hSl
  have HG2 := Lib.hid hg2
  have HBW := Lib.hid BW0
  have HGE := Lib.hid hge
  have HLE := Lib.hid hle
  have hin : (i : Int) < cap := by omega
  have hie : ((i : Int) == (cap : Int)) = false := by rw [beq_eq_false_iff_ne]; omega
  have hd : decide ((cap : Int) < (cap : Int) + 1) = true := decide_eq_true (by omega)
  clear hcp1 hcp2 hb hx hSl hY0 hY0l hY1 hY1l hY2 hP hS hS1 hPl hPS hXl hsp h hnl hgr hb1 hbg hW1 hW0 hb0 BW0 hZ hZl hc2 hge hle hz0 hz1 hz2 hi0 hg2 hm hkk hk hgg hcp0 hroom
  go_enter Tryz.func233, Tryz.ntmps233
  go_upto_region 11 with (first | (at_builtin; refine Lib.wpList_append_run _ rfl _ _ _ _ rfl _ _ rfl rfl _ _ (HGR.out _) ?_) | ((with_reducible refine wpList_copy_run rfl _ _ 22 22 rfl _ _ rfl rfl (HCP1.out _) ?_)))
  have hwr : IntKind.i64.wrap ((i : Int) + 1) = (i : Int) + 1 := IntWalk.i64_in _ ⟨by omega, by omega⟩
  refine wp_region_held_drew (S := fun Vx => Kep (fun b => b = g2) W1 Vx) (by kernel_rfl) (Kep.drew (Kep.refl _ _)) (fun hS0 => ?_)
  have HW6 := Lib.hid (show Bel W1 W1.drew from (Bel.refl _).drew)
  obtain ⟨w6, hw6⟩ : ∃ w6, World.drew W1 = w6 := ⟨_, rfl⟩
  rw [hw6] at hS0 HW6 ⊢
  clear hw6
  refine ztk 0 { dst := some 46, op := .move (.tmp 9), type := 22, pos := "slices.go:154", after := #[], guard := none } (.slice (some ⟨g2, 0, none⟩) (cap + 1) c2) (Or.inl ⟨by rfl, by intro w hSw; clear hSw; go_simp⟩) hS0 ?_
  try simp only [Act.put, zq1, zq2, zq3]
  refine ztk 1 { dst := some 47, op := .move (.tmp 1), type := 3, pos := "slices.go:154", after := #[], guard := none } (.int .i64 i) (Or.inl ⟨by rfl, by intro w hSw; clear hSw; go_simp⟩) hS0 ?_
  try simp only [Act.put, zq1, zq2, zq3]
  refine ztk 2 { dst := some 48, op := .move (.tmp 7), type := 3, pos := "slices.go:154", after := #[], guard := none } (.int .i64 1) (Or.inl ⟨by rfl, by intro w hSw; clear hSw; go_simp⟩) hS0 ?_
  try simp only [Act.put, zq1, zq2, zq3]
  refine ztk 3 { dst := some 49, op := .binOp .add 3 (.tmp 47) (.tmp 48) 3, type := 3, pos := "slices.go:154", after := #[{ on := 1, ground := .data }, { on := 2, ground := .data }], guard := none } (.int .i64 ((i : Int) + 1)) (Or.inl ⟨by rfl, by intro w hSw; clear hSw; go_simp⟩) hS0 ?_
  try simp only [Act.put, zq1, zq2, zq3]
  refine ztk 4 { dst := some 50, op := .slice 22 (.tmp 46) (some (.tmp 49)) none none, type := 22, pos := "slices.go:154", after := #[{ on := 0, ground := .data }, { on := 3, ground := .data }], guard := none } (.slice (some ⟨g2, (i + 1) * 6, none⟩) (cap + 1 - (i + 1)) (c2 - (i + 1))) (Or.inl ⟨by rfl, by intro w hSw; clear hSw; go_simp⟩) hS0 ?_
  try simp only [Act.put, zq1, zq2, zq3]
  refine ztk 5 { dst := some 51, op := .move (.tmp 0), type := 22, pos := "slices.go:154", after := #[], guard := none } (.slice (some ⟨g, 0, none⟩) cap cap) (Or.inl ⟨by rfl, by intro w hSw; clear hSw; go_simp⟩) hS0 ?_
  try simp only [Act.put, zq1, zq2, zq3]
  refine ztk 6 { dst := some 52, op := .move (.tmp 1), type := 3, pos := "slices.go:154", after := #[], guard := none } (.int .i64 i) (Or.inl ⟨by rfl, by intro w hSw; clear hSw; go_simp⟩) hS0 ?_
  try simp only [Act.put, zq1, zq2, zq3]
  refine ztk 7 { dst := some 53, op := .slice 22 (.tmp 51) (some (.tmp 52)) none none, type := 22, pos := "slices.go:154", after := #[{ on := 5, ground := .data }, { on := 6, ground := .data }], guard := none } (.slice (some ⟨g, i * 6, none⟩) (cap - i) (cap - i)) (Or.inl ⟨by rfl, by intro w hSw; clear hSw; go_simp⟩) hS0 ?_
  try simp only [Act.put, zq1, zq2, zq3]
  refine wpAnyH_ready (rs := [8]) (by kernel_rfl) (by simp) ?_
  refine AllReadyH.cons (o := { dst := some 54, op := .call { callee := .builtin .copy, args := #[.tmp 50, .tmp 53], argTypes := #[22, 22] }, type := 3, pos := "slices.go:154", after := #[{ on := 4, ground := .data }, { on := 7, ground := .data }], guard := none }) rfl (fun K hK => ?_) AllReadyH.nil
  refine step_copy_run rfl (.tmp 50) (.tmp 53) 22 22 rfl _ _ (by simp [Act.eval, Act.put]) (by simp [Act.eval, Act.put]) (HCP2.out w6 HW6.out _) ?_
  refine hK.out _ _ (hS0.trans (kep_setRow _ _ _)) (fun hS1 => ?_)
  clear hK K
  try simp only [Act.put, zq1, zq2, zq3]
  refine wpAnyH_done (by kernel_rfl) ?_ _
  have HE := Lib.hid hS1
  have HB2 := Lib.hid (blk_setRow (HB1.out.bel HW6.out) Y2.toArray)
  obtain ⟨W2, hW2⟩ : ∃ W2, w6.setRow g2 Y2.toArray = W2 := ⟨_, rfl⟩
  rw [hW2] at HE HB2 ⊢
  clear hW2 hS0 hwr
  go_wp2_with fail
  go_ret
  exact ⟨g2, c2, rfl, rb_mk c6C (w := W2) (by rw [← HY2.out]; exact HB2.out) (by rw [HLL.out, List.length_drop, HYL.out, HSL.out]; omega) (by rw [HLL.out]; exact HGE.out), Kep.bel HBW.out (HK1.out.trans HE.out) (fun k e => by rw [e, ← HG2.out]; exact Nat.le_refl _), by rw [HG2.out]; exact Nat.le_refl _, HLE.out⟩

theorem slice_ltP (g n cap i : Nat) (w : World) (h : i ≤ n) (hc : i < cap) : (Instr.slice 23 (.slice (some ⟨g, 0, none⟩) n cap) (some (.int .i64 i)) none none).run Tryz.prog w = .ok (.slice (some ⟨g, i * 6, none⟩) (n - i) (cap - i)) w := by
  have e : Tryz.prog.elem 23 = 93 := by kernel_rfl
  rw [run_slice_l (P := Tryz.prog) (w := w) (t := 23) (a := some ⟨g, 0, none⟩) (len := n) (cap := cap) (by rw [e]; exact Tryz.underlying23) .i64 i (by omega) (by omega), e]
  simp [Tryz.sizeOf93, Result.andThen, sliced, add_at, show ¬ cap = i by omega]
theorem overlapsP (w : World) (xb g o : Nat) (X Y : Array Value) (la ca lb cb : Nat) (hx : Blk w xb X 93) (hg : Blk w g Y 93) (hne : xb ≠ g) (hY : Y.size ≠ 0) :
    (callFunc 238 #[.slice (some ⟨xb, 0, none⟩) la ca, .slice (some ⟨g, o, none⟩) lb cb]).run Tryz.prog w = .ok (.value (.bool false)) w := by
  rw [run_callFunc_extern Tryz.func238 (by kernel_rfl) (by kernel_rfl) (by kernel_rfl) (e := Extern.SlicesOverlaps.overlaps #[23, 23] #[4]) (by kernel_rfl),
    Lib.run_overlaps_apart w 23 4 93 Tryz.underlying23 6 (fun w => by simp [Tryz.sizeOf93]) ⟨xb, 0, none⟩ ⟨g, o, none⟩ la ca lb cb hne _ _ _ _ (shape_blk hx) (shape_blk hg) hY (hx.frozen 0) (hx.frozen _)]
  rfl
set_option maxRecDepth 100000 in
set_option maxHeartbeats 4000000 in
/-- Behind all. -/
theorem insert_endP (v : Value) (l : List R6) (x : R6) (base xb : Nat) (w : World) (h : OwnR cP 93 w base v l) (hn : l.length ≤ 1000000000) (hx : Blk w xb (cP x).toArray 93) (hb : base ≤ w.heap.size) :
    Calls Tryz.prog 237 #[v, .int .i64 l.length, .slice (some ⟨xb, 0, none⟩) 1 1] w fun e w' => ∃ v', e = .returned v' ∧ OwnR cP 93 w' base v' (l ++ [x]) ∧ Kep (fun b => v.ownBlock = some b) w w' := by
  obtain ⟨A, c, rfl, hrs, hcm, _⟩ := h.rs c6P
  obtain ⟨n, hnl⟩ : ∃ n, l.length = n := ⟨_, rfl⟩
  have HNL := Lib.hid hnl
  rw [hnl] at h hrs hn ⊢
  have HO := Lib.hid h
  have HX := Lib.hid (show RS cP w (some ⟨xb, 0, none⟩) 1 1 [x] from rs_blk c6P hx rfl (Nat.le_refl _) (by simpa [flat] using List.take_of_length_le (by rw [c6P.len]; exact Nat.le_refl _)))
  have hcap := hrs.cap
  obtain ⟨D, hsl⟩ : ∃ D, ∀ W, (Instr.slice 23 (.slice A n c) (some (.int .i64 n)) none none).run Tryz.prog W = .ok (.slice D (n - n) (c - n)) W := by
    have e : Tryz.prog.elem 23 = 93 := by kernel_rfl
    refine ⟨(if c = n then A else A.map (·.add (n * 6))), fun W => ?_⟩
    rw [run_slice_l (P := Tryz.prog) (w := W) (t := 23) (a := A) (len := n) (cap := c) (by rw [e]; exact Tryz.underlying23) .i64 n (by omega) (by omega), e]
    simp [Tryz.sizeOf93, Result.andThen, sliced]
  clear h hrs hx hnl
  go_enter Tryz.func237, Tryz.ntmps237
  go_wp2_with (at_builtin; refine wpList_append_P rfl _ _ rfl base _ l rfl HO.out (some ⟨xb, 0, none⟩) 1 1 [x] rfl HX.out (by rw [HNL.out]; omega) hb ?_; intro v' w1 hown' hgrow)
  have HO2 := Lib.hid hown'
  have HK := Lib.hid (Kep.grown (S := fun b => (Value.slice A n c).ownBlock = some b) (Kep.refl _ w) hgrow (fun k e _ => e))
  clear hown' hgrow
  go_wp2
  go_ret
  exact ⟨_, rfl, HO2.out, HK.out⟩
set_option maxRecDepth 100000 in
set_option maxHeartbeats 8000000 in
/-- Between others, where there is room. -/
theorem insert_roomP (g cap i : Nat) (l : List R6) (x : R6) (xb : Nat) (w : World) (h : RB cP 93 w g l cap) (hi : i < l.length) (hn : l.length ≤ 1000000000) (hm : cap ≤ maxLen) (hroom : l.length < cap) (hx : Blk w xb (cP x).toArray 93) (hne : xb ≠ g) :
    Calls Tryz.prog 237 #[.slice (some ⟨g, 0, none⟩) l.length cap, .int .i64 i, .slice (some ⟨xb, 0, none⟩) 1 1] w fun e w' => e = .returned (.slice (some ⟨g, 0, none⟩) (l.length + 1) cap) ∧ RB cP 93 w' g (l.take i ++ x :: l.drop i) cap ∧ Kep (fun b => b = g) w w' := by
  obtain ⟨n, hnl⟩ : ∃ n, l.length = n := ⟨_, rfl⟩
  obtain ⟨sp, hb, hsp⟩ := rb_list c6P h
  rw [hnl] at hi hn hroom hsp ⊢
  unfold maxLen at hm
  have hPS : flat cP l = flat cP (l.take i) ++ flat cP (l.drop i) := by rw [← flat_app, List.take_append_drop]
  have hPl : (flat cP (l.take i)).length = i * 6 := by rw [flat_len c6P, List.length_take, hnl]; omega
  have hSl : (flat cP (l.drop i)).length = (n - i) * 6 := by rw [flat_len c6P, List.length_drop, hnl]
  have hXl := c6P.len x
  rw [hPS] at hb
  obtain ⟨P, hP⟩ : ∃ P, flat cP (l.take i) = P := ⟨_, rfl⟩
  obtain ⟨S, hS⟩ : ∃ S, flat cP (l.drop i) = S := ⟨_, rfl⟩
  have hS1 : ∀ u ∈ S, u.oneCell' = true := by rw [← hS]; exact flat_one c6P _
  have HSX := Lib.hid (show flat cP (l.take i ++ x :: l.drop i) = P ++ cP x ++ S by rw [flat_app, ← hP, ← hS]; show _ ++ (cP x ++ flat cP (l.drop i)) = _; rw [List.append_assoc])
  have HLL := Lib.hid (show (l.take i ++ x :: l.drop i).length = n + 1 by simp [hnl]; omega)
  rw [hP] at hb hPl
  rw [hS] at hb hSl
  obtain ⟨Y, hY⟩ : ∃ Y, Y = P ++ S ++ sp := ⟨_, rfl⟩
  have hYl : Y.length = cap * 6 := by rw [hY]; simp [hPl, hSl, hsp]; omega
  obtain ⟨Y1, hY1⟩ : ∃ Y1, Y1 = Y.take (i * 6 + 6) ++ S ++ Y.drop (i * 6 + 6 + S.length) := ⟨_, rfl⟩
  have hY1l : Y1.length = cap * 6 := by rw [hY1]; simp [hYl, hSl]; omega
  obtain ⟨Y2, hY2⟩ : ∃ Y2, Y2 = Y1.take (i * 6) ++ cP x ++ Y1.drop (i * 6 + 6) := ⟨_, rfl⟩
  have HY2 := Lib.hid (show Y2 = flat cP (l.take i ++ x :: l.drop i) ++ Y.drop (i * 6 + 6 + S.length) by
    rw [hY2, hY1, hY, cut3 P S sp (cP x) (i * 6) hPl hXl (by rw [hSl, hsp]; omega), ← HSX.out])
  have hb : Blk w g Y.toArray 93 := by rw [hY]; exact hb
  have hcp1 : ∀ W, Bel w W → ∀ ty, (Builtin.copy_ #[23, 23] ty #[.slice (some ⟨g, (i + 1) * 6, none⟩) (n + 1 - (i + 1)) (cap - (i + 1)), .slice (some ⟨g, i * 6, none⟩) (n + 1 - i) (cap - i)]).run Tryz.prog W = .ok (goInt (n - i : Nat)) (W.setRow g Y1.toArray) := fun W hW ty => by
    have hmin : Nat.min (n + 1 - i) (n + 1 - (i + 1)) = n - i := by show min _ _ = _; omega
    have hr := run_copy6 W 23 23 ty 93 g ((i + 1) * 6) (n + 1 - (i + 1)) (cap - (i + 1)) ⟨g, i * 6, none⟩ (n + 1 - i) (cap - i) Y _ S Tryz.underlying23 info_p (hb.bel hW) (by rw [hmin, hSl]) (fun j u hj => by
      rw [add_at]
      refine (hb.bel hW).cell _ ?_
      have hj2 := (List.getElem?_eq_some_iff.1 hj).1
      rw [List.getElem?_toArray, hY, List.append_assoc, List.getElem?_append_right (by omega), hPl, Nat.add_sub_cancel_left, List.getElem?_append_left hj2]
      exact hj) (by rw [hYl, hSl]; omega) hS1
    rw [hr, hmin, hY1, show (i + 1) * 6 = i * 6 + 6 by omega]
  have hcp2 : ∀ W, Blk W g Y1.toArray 93 → Blk W xb (cP x).toArray 93 → ∀ ty, (Builtin.copy_ #[23, 23] ty #[.slice (some ⟨g, i * 6, none⟩) (n + 1 - i) (cap - i), .slice (some ⟨xb, 0, none⟩) 1 1]).run Tryz.prog W = .ok (goInt (1 : Nat)) (W.setRow g Y2.toArray) := fun W hW hxW ty => by
    have hmin : Nat.min 1 (n + 1 - i) = 1 := by show min _ _ = _; omega
    have hr := run_copy6 W 23 23 ty 93 g (i * 6) (n + 1 - i) (cap - i) ⟨xb, 0, none⟩ 1 1 Y1 _ (cP x) Tryz.underlying23 info_p hW (by rw [hmin, hXl]) (fun j u hj => by
      rw [add_at, Nat.zero_add]
      exact hxW.cell _ (by simpa using hj)) (by rw [hY1l, hXl]; omega) (c6P.one x)
    rw [hr, hmin, hY2, hXl]
  have hov := fun W (hW : Bel w W) lb cb => overlapsP W xb g ((i + 1) * 6) _ _ 1 1 lb cb (hx.bel hW) (hb.bel hW) hne (by simp [hYl]; omega)
  have hov := hov w (Bel.refl _)
  have hs1 := fun W => slice_hrP g n cap (n + 1) W (by omega)
  have hs2 := fun W => slice_ltP g (n + 1) cap (i + 1) W (by omega) (by omega)
  have hs3 := fun W => slice_ltP g (n + 1) cap i W (by omega) (by omega)
  have hs4 := fun W => slice_ltP g n cap i W (by omega) (by omega)
  push_cast at hs1 hs2
  have HCP1 := Lib.hid hcp1
  have HCP2 := Lib.hid hcp2
  have HB := Lib.hid hb
  have HXB := Lib.hid hx
  have HYL := Lib.hid hYl
  have HSL := Lib.hid hSl
  have HNE := Lib.hid hne
  have hin : (i : Int) < n := by omega
  have hie : ((i : Int) == (n : Int)) = false := by rw [beq_eq_false_iff_ne]; omega
  have hroom3 : (n : Int) + 1 ≤ cap := by omega
  have hd : decide ((cap : Int) < (n : Int) + 1) = false := decide_eq_false (by omega)
  clear hcp1 hcp2 hb hx hYl hSl hY hY1 hY1l hY2 hP hS hS1 hPl hPS hXl hne hsp h hnl
  go_enter Tryz.func237, Tryz.ntmps237
  go_upto_region 15 with (simp only [hov])
  have hwr : IntKind.i64.wrap ((i : Int) + 1) = (i : Int) + 1 := IntWalk.i64_in _ ⟨by omega, by omega⟩
  refine wp_region_held_drew (S := fun Vx => Kep (fun b => b = g) w Vx) (by kernel_rfl) (Kep.drew (Kep.refl _ _)) (fun hS0 => ?_)
  have HW6 := Lib.hid (show Bel w w.drew from (Bel.refl _).drew)
  obtain ⟨w6, hw6⟩ : ∃ w6, World.drew w = w6 := ⟨_, rfl⟩
  rw [hw6] at hS0 HW6 ⊢
  clear hw6
  refine ztk 0 { dst := some 69, op := .move (.tmp 0), type := 23, pos := "slices.go:178", after := #[], guard := none } (.slice (some ⟨g, 0, none⟩) (n + 1) cap) (Or.inl ⟨by rfl, by intro w hSw; clear hSw; go_simp⟩) hS0 ?_
  try simp only [Act.put, zq1, zq2, zq3]
  refine ztk 1 { dst := some 70, op := .move (.tmp 1), type := 3, pos := "slices.go:178", after := #[], guard := none } (.int .i64 i) (Or.inl ⟨by rfl, by intro w hSw; clear hSw; go_simp⟩) hS0 ?_
  try simp only [Act.put, zq1, zq2, zq3]
  refine ztk 2 { dst := some 71, op := .move (.tmp 7), type := 3, pos := "slices.go:178", after := #[], guard := none } (.int .i64 1) (Or.inl ⟨by rfl, by intro w hSw; clear hSw; go_simp⟩) hS0 ?_
  try simp only [Act.put, zq1, zq2, zq3]
  refine ztk 3 { dst := some 72, op := .binOp .add 3 (.tmp 70) (.tmp 71) 3, type := 3, pos := "slices.go:178", after := #[{ on := 1, ground := .data }, { on := 2, ground := .data }], guard := none } (.int .i64 ((i : Int) + 1)) (Or.inl ⟨by rfl, by intro w hSw; clear hSw; go_simp⟩) hS0 ?_
  try simp only [Act.put, zq1, zq2, zq3]
  refine ztk 4 { dst := some 73, op := .slice 23 (.tmp 69) (some (.tmp 72)) none none, type := 23, pos := "slices.go:178", after := #[{ on := 0, ground := .data }, { on := 3, ground := .data }], guard := none } (.slice (some ⟨g, (i + 1) * 6, none⟩) (n + 1 - (i + 1)) (cap - (i + 1))) (Or.inl ⟨by rfl, by intro w hSw; clear hSw; go_simp⟩) hS0 ?_
  try simp only [Act.put, zq1, zq2, zq3]
  refine ztk 5 { dst := some 74, op := .move (.tmp 0), type := 23, pos := "slices.go:178", after := #[], guard := none } (.slice (some ⟨g, 0, none⟩) (n + 1) cap) (Or.inl ⟨by rfl, by intro w hSw; clear hSw; go_simp⟩) hS0 ?_
  try simp only [Act.put, zq1, zq2, zq3]
  refine ztk 6 { dst := some 75, op := .move (.tmp 1), type := 3, pos := "slices.go:178", after := #[], guard := none } (.int .i64 i) (Or.inl ⟨by rfl, by intro w hSw; clear hSw; go_simp⟩) hS0 ?_
  try simp only [Act.put, zq1, zq2, zq3]
  refine ztk 7 { dst := some 76, op := .slice 23 (.tmp 74) (some (.tmp 75)) none none, type := 23, pos := "slices.go:178", after := #[{ on := 5, ground := .data }, { on := 6, ground := .data }], guard := none } (.slice (some ⟨g, i * 6, none⟩) (n + 1 - i) (cap - i)) (Or.inl ⟨by rfl, by intro w hSw; clear hSw; go_simp⟩) hS0 ?_
  try simp only [Act.put, zq1, zq2, zq3]
  refine wpAnyH_ready (rs := [8]) (by kernel_rfl) (by simp) ?_
  refine AllReadyH.cons (o := { dst := some 77, op := .call { callee := .builtin .copy, args := #[.tmp 73, .tmp 76], argTypes := #[23, 23] }, type := 3, pos := "slices.go:178", after := #[{ on := 4, ground := .data }, { on := 7, ground := .data }], guard := none }) rfl (fun K hK => ?_) AllReadyH.nil
  refine step_copy_run rfl (.tmp 73) (.tmp 76) 23 23 rfl _ _ (by simp [Act.eval, Act.put]) (by simp [Act.eval, Act.put]) (HCP1.out w6 HW6.out _) ?_
  refine hK.out _ _ (hS0.trans (kep_setRow _ _ _)) (fun hS1 => ?_)
  clear hK K
  try simp only [Act.put, zq1, zq2, zq3]
  refine wpAnyH_done (by kernel_rfl) ?_ _
  have HE := Lib.hid hS1
  have HB1 := Lib.hid (blk_setRow (HB.out.bel HW6.out) Y1.toArray)
  have HX1 := Lib.hid ((HXB.out.bel HW6.out).kep (kep_setRow w6 g Y1.toArray) HNE.out)
  obtain ⟨W1, hW1⟩ : ∃ W1, w6.setRow g Y1.toArray = W1 := ⟨_, rfl⟩
  rw [hW1] at HE HB1 HX1 ⊢
  clear hW1 hS0 hwr
  go_wp2_with ((with_reducible refine wpList_copy_run rfl _ _ 23 23 rfl _ _ rfl rfl (HCP2.out W1 HB1.out HX1.out _) ?_))
  go_ret
  exact ⟨rfl, rb_mk c6P (w := W1.setRow g Y2.toArray) (by rw [← HY2.out]; exact blk_setRow HB1.out _) (by rw [HLL.out, List.length_drop, HYL.out, HSL.out]; omega) (by rw [HLL.out]; omega), HE.out.trans (kep_setRow _ _ _)⟩
set_option maxRecDepth 100000 in
set_option maxHeartbeats 8000000 in
/-- Between others, where there is no room. -/
theorem insert_growP (g cap i : Nat) (l : List R6) (x : R6) (xb : Nat) (w : World) (h : RB cP 93 w g l cap) (hi : i < l.length) (hn : l.length ≤ 1000000000) (hm : cap ≤ maxLen) (hroom : ¬ l.length < cap) (hx : Blk w xb (cP x).toArray 93) :
    Calls Tryz.prog 237 #[.slice (some ⟨g, 0, none⟩) l.length cap, .int .i64 i, .slice (some ⟨xb, 0, none⟩) 1 1] w fun e w' => ∃ g2 cap2, e = .returned (.slice (some ⟨g2, 0, none⟩) (l.length + 1) cap2) ∧ RB cP 93 w' g2 (l.take i ++ x :: l.drop i) cap2 ∧ Bel w w' ∧ w.heap.size ≤ g2 ∧ cap2 ≤ maxLen := by
  obtain ⟨n, hnl⟩ : ∃ n, l.length = n := ⟨_, rfl⟩
  have hcp0 := h.cap
  obtain ⟨sp, hb, hsp⟩ := rb_list c6P h
  rw [hnl] at hi hn hroom hsp hcp0 ⊢
  obtain rfl : cap = n := by omega
  have hspe : sp = [] := List.length_eq_zero_iff.1 (by rw [hsp]; omega)
  subst hspe
  rw [List.append_nil] at hb
  obtain ⟨i0, hi0, hz0, hz1, hz2⟩ := info_parts zero_p
  have hPS : flat cP l = flat cP (l.take i) ++ flat cP (l.drop i) := by rw [← flat_app, List.take_append_drop]
  have hPl : (flat cP (l.take i)).length = i * 6 := by rw [flat_len c6P, List.length_take, hnl]; omega
  have hSl : (flat cP (l.drop i)).length = (cap - i) * 6 := by rw [flat_len c6P, List.length_drop, hnl]
  have hXl := c6P.len x
  rw [hPS] at hb
  obtain ⟨P, hP⟩ : ∃ P, flat cP (l.take i) = P := ⟨_, rfl⟩
  obtain ⟨S, hS⟩ : ∃ S, flat cP (l.drop i) = S := ⟨_, rfl⟩
  have hS1 : ∀ u ∈ S, u.oneCell' = true := by rw [← hS]; exact flat_one c6P _
  have HSX := Lib.hid (show flat cP (l.take i ++ x :: l.drop i) = P ++ cP x ++ S by rw [flat_app, ← hP, ← hS]; show _ ++ (cP x ++ flat cP (l.drop i)) = _; rw [List.append_assoc])
  have HLL := Lib.hid (show (l.take i ++ x :: l.drop i).length = cap + 1 by simp [hnl]; omega)
  rw [hP] at hb hPl
  rw [hS] at hb hSl
  obtain ⟨k, hk⟩ : ∃ k, cap + 1 - i = k := ⟨_, rfl⟩
  have hkk : i + k = cap + 1 := by omega
  have hge := grownCap_ge w (cap + 1) cap 93
  have hle := grownCap_le_maxLen w (cap + 1) cap 93 (by unfold maxLen; omega)
  have hgr : ∀ ty, (Builtin.append_ #[23, 3] ty #[.slice (some ⟨g, 0, none⟩) i cap, .int .i64 k]).run Tryz.prog w = _ := fun ty =>
    Lib.run_append_grow_zeros w 23 3 ty 93 i0 _ .i64 .i64 Tryz.underlying23 Tryz.underlying3 hi0 hz0 (some ⟨g, 0, none⟩) i cap P
      (run_firstCells_some (P := Tryz.prog) w.drew i0.size i ⟨g, 0, none⟩ i cap P (by rw [hz1, hPl]) (fun j u hj => by
        rw [add_at, Nat.zero_add]
        refine (hb.bel ((Bel.refl w).drew)).cell _ ?_
        rw [List.getElem?_toArray, List.getElem?_append_left (List.getElem?_eq_some_iff.1 hj).1]
        exact hj)) k (by omega) (by omega) (by omega) (by omega) (by rw [hz2]; omega) (by rw [hz2]; exact growslice_fits (by omega) (by omega))
  rw [hkk] at hgr
  obtain ⟨c2, hc2⟩ : ∃ c2, grownCap w (cap + 1) cap 93 = c2 := ⟨_, rfl⟩
  rw [hc2] at hgr hge hle
  obtain ⟨Z, hZ⟩ : ∃ Z : List Value, Z = (Builtin.zeroCells (Value.agg (cP (0, 0, 0, 0, 0, 0)).toArray).cells k ++ Builtin.zeroCells (Value.agg (cP (0, 0, 0, 0, 0, 0)).toArray).cells (c2 - (cap + 1))).toList := ⟨_, rfl⟩
  have hZl : Z.length = (c2 - i) * 6 := by
    rw [hZ, Array.length_toList, Array.size_append, size_zeroCells, size_zeroCells]
    show k * (cP (0, 0, 0, 0, 0, 0)).toArray.size + (c2 - (cap + 1)) * (cP (0, 0, 0, 0, 0, 0)).toArray.size = _
    rw [List.size_toArray, c6P.len]
    omega
  have hgr : ∀ ty, (Builtin.append_ #[23, 3] ty #[.slice (some ⟨g, 0, none⟩) i cap, .int .i64 k]).run Tryz.prog w = .ok (.slice (some ⟨w.heap.size, 0, none⟩) (cap + 1) c2) (w.drew.alloc (.cells (P ++ Z).toArray 93)) := fun ty => by
    rw [hgr ty, hZ]
    congr 3
    simp
  obtain ⟨Y0, hY0⟩ : ∃ Y0, Y0 = P ++ Z := ⟨_, rfl⟩
  rw [← hY0] at hgr
  have hY0l : Y0.length = c2 * 6 := by rw [hY0]; simp [hPl, hZl]; omega
  obtain ⟨Y1, hY1⟩ : ∃ Y1, Y1 = Y0.take (i * 6) ++ cP x ++ Y0.drop (i * 6 + 6) := ⟨_, rfl⟩
  have hY1l : Y1.length = c2 * 6 := by rw [hY1]; simp [hY0l, hXl]; omega
  obtain ⟨Y2, hY2⟩ : ∃ Y2, Y2 = Y1.take (i * 6 + 6) ++ S ++ Y1.drop (i * 6 + 6 + S.length) := ⟨_, rfl⟩
  have HY2 := Lib.hid (show Y2 = flat cP (l.take i ++ x :: l.drop i) ++ Z.drop (6 + S.length) by
    rw [hY2, hY1, hY0, cut2 P Z (cP x) S (i * 6) hPl hXl (by rw [hSl, hZl]; omega), ← HSX.out])
  obtain ⟨g2, hg2⟩ : ∃ g2, w.heap.size = g2 := ⟨_, rfl⟩
  rw [hg2] at hgr
  obtain ⟨W0, hW0⟩ : ∃ W0, w.drew.alloc (.cells Y0.toArray 93) = W0 := ⟨_, rfl⟩
  have BW0 : Bel w W0 := by rw [← hW0]; exact ((Bel.refl w).drew).alloc _
  have hb0 : Blk W0 g2 Y0.toArray 93 := by rw [← hW0, ← hg2]; exact Blk.new w.drew _ _
  rw [hW0] at hgr
  have hgg : g ≠ g2 := by have := hb.lt; omega
  have hcp1 : ∀ ty, (Builtin.copy_ #[23, 23] ty #[.slice (some ⟨g2, i * 6, none⟩) (cap + 1 - i) (c2 - i), .slice (some ⟨xb, 0, none⟩) 1 1]).run Tryz.prog W0 = .ok (goInt (1 : Nat)) (W0.setRow g2 Y1.toArray) := fun ty => by
    have hmin : Nat.min 1 (cap + 1 - i) = 1 := by show min _ _ = _; omega
    have hr := run_copy6 W0 23 23 ty 93 g2 (i * 6) (cap + 1 - i) (c2 - i) ⟨xb, 0, none⟩ 1 1 Y0 _ (cP x) Tryz.underlying23 info_p hb0 (by rw [hmin, hXl]) (fun j u hj => by
      rw [add_at, Nat.zero_add]
      exact (hx.bel BW0).cell _ (by simpa using hj)) (by rw [hY0l, hXl]; omega) (c6P.one x)
    rw [hr, hmin, hY1, hXl]
  have hb1 := blk_setRow hb0 Y1.toArray
  have hbg : Blk (W0.setRow g2 Y1.toArray) g (P ++ S).toArray 93 := (hb.bel BW0).kep (kep_setRow W0 g2 _) hgg
  have HK1 := Lib.hid (kep_setRow W0 g2 Y1.toArray)
  obtain ⟨W1, hW1⟩ : ∃ W1, W0.setRow g2 Y1.toArray = W1 := ⟨_, rfl⟩
  rw [hW1] at hcp1 hb1 hbg HK1
  have hcp2 : ∀ W, Bel W1 W → ∀ ty, (Builtin.copy_ #[23, 23] ty #[.slice (some ⟨g2, (i + 1) * 6, none⟩) (cap + 1 - (i + 1)) (c2 - (i + 1)), .slice (some ⟨g, i * 6, none⟩) (cap - i) (cap - i)]).run Tryz.prog W = .ok (goInt (cap - i : Nat)) (W.setRow g2 Y2.toArray) := fun W hW ty => by
    have hmin : Nat.min (cap - i) (cap + 1 - (i + 1)) = cap - i := by show min _ _ = _; omega
    have hr := run_copy6 W 23 23 ty 93 g2 ((i + 1) * 6) (cap + 1 - (i + 1)) (c2 - (i + 1)) ⟨g, i * 6, none⟩ (cap - i) (cap - i) Y1 _ S Tryz.underlying23 info_p (hb1.bel hW) (by rw [hmin, hSl]) (fun j u hj => by
      rw [add_at]
      refine (hbg.bel hW).cell _ ?_
      rw [List.getElem?_toArray, List.getElem?_append_right (by omega), hPl, Nat.add_sub_cancel_left]
      exact hj) (by rw [hY1l, hSl]; omega) hS1
    rw [hr, hmin, hY2, show (i + 1) * 6 = i * 6 + 6 by omega]
  have hs1 := fun W => slice_hrP g cap cap i W (by omega)
  have hs2 := fun W => slice_ltP g2 (cap + 1) c2 i W (by omega) (by omega)
  have hs3 := fun W => slice_ltP g2 (cap + 1) c2 (i + 1) W (by omega) (by omega)
  have hs4 := fun W => slice_ltP g cap cap i W (by omega) (by omega)
  push_cast at hs3
  have hki : (cap : Int) + 1 - (i : Int) = (k : Int) := by omega
  have HCP1 := Lib.hid hcp1
  have HCP2 := Lib.hid hcp2
  have HGR := Lib.hid hgr
  have HB1 := Lib.hid hb1
  have HYL := Lib.hid hZl
  have HSL := Lib.hid hSl
  have HG2 := Lib.hid hg2
  have HBW := Lib.hid BW0
  have HGE := Lib.hid hge
  have HLE := Lib.hid hle
  have hin : (i : Int) < cap := by omega
  have hie : ((i : Int) == (cap : Int)) = false := by rw [beq_eq_false_iff_ne]; omega
  have hd : decide ((cap : Int) < (cap : Int) + 1) = true := decide_eq_true (by omega)
  clear hcp1 hcp2 hb hx hSl hY0 hY0l hY1 hY1l hY2 hP hS hS1 hPl hPS hXl hsp h hnl hgr hb1 hbg hW1 hW0 hb0 BW0 hZ hZl hc2 hge hle hz0 hz1 hz2 hi0 hg2 hm hkk hk hgg hcp0 hroom
  go_enter Tryz.func237, Tryz.ntmps237
  go_upto_region 11 with (first | (at_builtin; refine Lib.wpList_append_run _ rfl _ _ _ _ rfl _ _ rfl rfl _ _ (HGR.out _) ?_) | ((with_reducible refine wpList_copy_run rfl _ _ 23 23 rfl _ _ rfl rfl (HCP1.out _) ?_)))
  have hwr : IntKind.i64.wrap ((i : Int) + 1) = (i : Int) + 1 := IntWalk.i64_in _ ⟨by omega, by omega⟩
  refine wp_region_held_drew (S := fun Vx => Kep (fun b => b = g2) W1 Vx) (by kernel_rfl) (Kep.drew (Kep.refl _ _)) (fun hS0 => ?_)
  have HW6 := Lib.hid (show Bel W1 W1.drew from (Bel.refl _).drew)
  obtain ⟨w6, hw6⟩ : ∃ w6, World.drew W1 = w6 := ⟨_, rfl⟩
  rw [hw6] at hS0 HW6 ⊢
  clear hw6
  refine ztk 0 { dst := some 46, op := .move (.tmp 9), type := 23, pos := "slices.go:154", after := #[], guard := none } (.slice (some ⟨g2, 0, none⟩) (cap + 1) c2) (Or.inl ⟨by rfl, by intro w hSw; clear hSw; go_simp⟩) hS0 ?_
  try simp only [Act.put, zq1, zq2, zq3]
  refine ztk 1 { dst := some 47, op := .move (.tmp 1), type := 3, pos := "slices.go:154", after := #[], guard := none } (.int .i64 i) (Or.inl ⟨by rfl, by intro w hSw; clear hSw; go_simp⟩) hS0 ?_
  try simp only [Act.put, zq1, zq2, zq3]
  refine ztk 2 { dst := some 48, op := .move (.tmp 7), type := 3, pos := "slices.go:154", after := #[], guard := none } (.int .i64 1) (Or.inl ⟨by rfl, by intro w hSw; clear hSw; go_simp⟩) hS0 ?_
  try simp only [Act.put, zq1, zq2, zq3]
  refine ztk 3 { dst := some 49, op := .binOp .add 3 (.tmp 47) (.tmp 48) 3, type := 3, pos := "slices.go:154", after := #[{ on := 1, ground := .data }, { on := 2, ground := .data }], guard := none } (.int .i64 ((i : Int) + 1)) (Or.inl ⟨by rfl, by intro w hSw; clear hSw; go_simp⟩) hS0 ?_
  try simp only [Act.put, zq1, zq2, zq3]
  refine ztk 4 { dst := some 50, op := .slice 23 (.tmp 46) (some (.tmp 49)) none none, type := 23, pos := "slices.go:154", after := #[{ on := 0, ground := .data }, { on := 3, ground := .data }], guard := none } (.slice (some ⟨g2, (i + 1) * 6, none⟩) (cap + 1 - (i + 1)) (c2 - (i + 1))) (Or.inl ⟨by rfl, by intro w hSw; clear hSw; go_simp⟩) hS0 ?_
  try simp only [Act.put, zq1, zq2, zq3]
  refine ztk 5 { dst := some 51, op := .move (.tmp 0), type := 23, pos := "slices.go:154", after := #[], guard := none } (.slice (some ⟨g, 0, none⟩) cap cap) (Or.inl ⟨by rfl, by intro w hSw; clear hSw; go_simp⟩) hS0 ?_
  try simp only [Act.put, zq1, zq2, zq3]
  refine ztk 6 { dst := some 52, op := .move (.tmp 1), type := 3, pos := "slices.go:154", after := #[], guard := none } (.int .i64 i) (Or.inl ⟨by rfl, by intro w hSw; clear hSw; go_simp⟩) hS0 ?_
  try simp only [Act.put, zq1, zq2, zq3]
  refine ztk 7 { dst := some 53, op := .slice 23 (.tmp 51) (some (.tmp 52)) none none, type := 23, pos := "slices.go:154", after := #[{ on := 5, ground := .data }, { on := 6, ground := .data }], guard := none } (.slice (some ⟨g, i * 6, none⟩) (cap - i) (cap - i)) (Or.inl ⟨by rfl, by intro w hSw; clear hSw; go_simp⟩) hS0 ?_
  try simp only [Act.put, zq1, zq2, zq3]
  refine wpAnyH_ready (rs := [8]) (by kernel_rfl) (by simp) ?_
  refine AllReadyH.cons (o := { dst := some 54, op := .call { callee := .builtin .copy, args := #[.tmp 50, .tmp 53], argTypes := #[23, 23] }, type := 3, pos := "slices.go:154", after := #[{ on := 4, ground := .data }, { on := 7, ground := .data }], guard := none }) rfl (fun K hK => ?_) AllReadyH.nil
  refine step_copy_run rfl (.tmp 50) (.tmp 53) 23 23 rfl _ _ (by simp [Act.eval, Act.put]) (by simp [Act.eval, Act.put]) (HCP2.out w6 HW6.out _) ?_
  refine hK.out _ _ (hS0.trans (kep_setRow _ _ _)) (fun hS1 => ?_)
  clear hK K
  try simp only [Act.put, zq1, zq2, zq3]
  refine wpAnyH_done (by kernel_rfl) ?_ _
  have HE := Lib.hid hS1
  have HB2 := Lib.hid (blk_setRow (HB1.out.bel HW6.out) Y2.toArray)
  obtain ⟨W2, hW2⟩ : ∃ W2, w6.setRow g2 Y2.toArray = W2 := ⟨_, rfl⟩
  rw [hW2] at HE HB2 ⊢
  clear hW2 hS0 hwr
  go_wp2_with fail
  go_ret
  exact ⟨g2, c2, rfl, rb_mk c6P (w := W2) (by rw [← HY2.out]; exact HB2.out) (by rw [HLL.out, List.length_drop, HYL.out, HSL.out]; omega) (by rw [HLL.out]; exact HGE.out), Kep.bel HBW.out (HK1.out.trans HE.out) (fun k e => by rw [e, ← HG2.out]; exact Nat.le_refl _), by rw [HG2.out]; exact Nat.le_refl _, HLE.out⟩
end Ho
end Go.Proofs.YtneajcoiemkfbaaGreat
end

section
/-
  What slices.Replace and holding.put make of a list of one's own, of classes and of positions. Conditions: at most a billion rows, in order.
-/
namespace Go.Proofs.YtneajcoiemkfbaaGreat
open Go.RowKit Go.Shelf
set_option linter.unusedVariables false
set_option linter.unusedSimpArgs false
namespace Ho
open Kk Pm

theorem cut1 {α : Type} (P X0 R X : List α) (a : Nat) (hP : P.length = a) (h0 : X0.length = 6) (hX : X.length = 6) : (P ++ X0 ++ R).take a ++ X ++ (P ++ X0 ++ R).drop (a + 6) = P ++ X ++ R := by
  rw [List.append_assoc P X0 R, List.take_left' hP, ← List.append_assoc P X0 R, List.drop_left' (by simp; omega)]
theorem splice_self {α : Type} (Q R : List α) (S : List α) (a : Nat) (hQ : Q.length = a) : (Q ++ S ++ R).take a ++ S ++ (Q ++ S ++ R).drop (a + S.length) = Q ++ S ++ R := by
  rw [List.append_assoc Q S R, List.take_left' hQ, ← List.append_assoc Q S R, List.drop_left' (by simp; omega)]
theorem own_pre {k : R6 → List Value} (K : C6 k) {t : TypeId} {w : World} {base g cap i : Nat} {l : List R6} (h : RB k t w g l cap) (hb : base ≤ g) (hm : cap ≤ maxLen) (hi : i ≤ l.length) : OwnR k t w base (.slice (some ⟨g, 0, none⟩) i cap) (l.take i) := by
  obtain ⟨cur, h1, h2, h3⟩ := h.blk
  have hl : (l.take i).length = i := by rw [List.length_take]; omega
  refine ⟨by rw [flat_len K], .inr ⟨g, cap, cur, by rw [hl], hb, h1, by rw [hl]; have := h.cap; omega, hm, h3, ?_⟩⟩
  rw [hl, ← flat_take K, ← h2, List.take_take, Nat.min_eq_left (by omega)]

set_option maxRecDepth 100000 in
set_option maxHeartbeats 8000000 in
/-- The last one. -/
theorem replace_lastC (g cap i base xb : Nat) (l : List R6) (x : R6) (w : World) (h : RB cC 90 w g l cap) (hi : i + 1 = l.length) (hn : l.length ≤ 1000000000) (hm : cap ≤ maxLen) (hx : Blk w xb (cC x).toArray 90) (hb : base ≤ w.heap.size) (hg : base ≤ g) :
    Calls Tryz.prog 222 #[.slice (some ⟨g, 0, none⟩) l.length cap, .int .i64 i, .int .i64 ((i : Int) + 1), .slice (some ⟨xb, 0, none⟩) 1 1] w fun e w' => ∃ v', e = .returned v' ∧ OwnR cC 90 w' base v' (l.take i ++ x :: l.drop (i + 1)) ∧ Kep (fun b => b = g) w w' := by
  obtain ⟨n, hnl⟩ : ∃ n, l.length = n := ⟨_, rfl⟩
  have hcap := h.cap
  have HO := Lib.hid (own_pre c6C h hg hm (i := i) (by omega))
  have HX := Lib.hid (show RS cC w (some ⟨xb, 0, none⟩) 1 1 [x] from rs_blk c6C hx rfl (Nat.le_refl _) (by simpa [flat] using List.take_of_length_le (by rw [c6C.len]; exact Nat.le_refl _)))
  have HLI := Lib.hid (show (l.take i).length = i by rw [List.length_take]; omega)
  have HDR := Lib.hid (show l.drop (i + 1) = [] from List.drop_eq_nil_of_le (by omega))
  rw [hnl] at hi hn hcap ⊢
  unfold maxLen at hm
  have hs1 := fun W => slice_hrC g n cap i W (by omega)
  have hs2 := fun W => slice_lhC g n cap i (i + 1) W (by omega) (by omega) (by omega)
  push_cast at hs2
  have hie2 : ((i : Int) + 1 == (n : Int)) = true := by rw [beq_iff_eq]; omega
  have HIN := Lib.hid hi
  have hin : i < n := by omega
  clear hi
  have hie : ((i : Int) == (i : Int) + 1) = false := by rw [beq_eq_false_iff_ne]; omega
  clear h hx hnl
  go_enter Tryz.func222, Tryz.ntmps222
  go_wp2_with (at_builtin; refine wpList_append_C rfl _ _ rfl base _ (l.take i) rfl HO.out (some ⟨xb, 0, none⟩) 1 1 [x] rfl HX.out (by rw [HLI.out]; omega) hb ?_; intro v' w1 hown' hgrow; obtain ⟨A3, c3, e3, hr3, _⟩ := OwnR.rs c6C hown'; rw [show (l.take i ++ [x]).length = n from by rw [List.length_append, HLI.out]; exact HIN.out] at e3; subst e3; clear hr3)
  have HK := Lib.hid (Kep.grown (S := fun b => b = g) (Kep.refl _ w) hgrow (fun k e _ => by injection e with e; exact e.symm))
  have HO2 := Lib.hid hown'
  clear hown' hgrow
  (try go_wp2_with fail)
  go_ret
  exact ⟨_, rfl, by rw [HDR.out]; exact HO2.out, HK.out⟩
set_option maxRecDepth 100000 in
set_option maxHeartbeats 8000000 in
/-- One ahead of others. -/
theorem replace_midC (g cap i xb : Nat) (l : List R6) (x : R6) (w : World) (h : RB cC 90 w g l cap) (hi : i + 1 < l.length) (hn : l.length ≤ 1000000000) (hm : cap ≤ maxLen) (hx : Blk w xb (cC x).toArray 90) :
    Calls Tryz.prog 222 #[.slice (some ⟨g, 0, none⟩) l.length cap, .int .i64 i, .int .i64 ((i : Int) + 1), .slice (some ⟨xb, 0, none⟩) 1 1] w fun e w' => e = .returned (.slice (some ⟨g, 0, none⟩) l.length cap) ∧ RB cC 90 w' g (l.take i ++ x :: l.drop (i + 1)) cap ∧ Kep (fun b => b = g) w w' := by
  obtain ⟨n, hnl⟩ : ∃ n, l.length = n := ⟨_, rfl⟩
  have hcap := h.cap
  obtain ⟨sp, hb, hsp⟩ := rb_list c6C h
  rw [hnl] at hi hn hcap hsp ⊢
  unfold maxLen at hm
  have hXl := c6C.len x
  have hPl : (flat cC (l.take i)).length = i * 6 := by rw [flat_len c6C, List.length_take, hnl]; omega
  have hSl : (flat cC (l.drop (i + 1))).length = (n - (i + 1)) * 6 := by rw [flat_len c6C, List.length_drop, hnl]
  have hPS : flat cC l = flat cC (l.take i) ++ flat cC ((l.drop i).take 1) ++ flat cC (l.drop (i + 1)) := by
    rw [← flat_app, ← flat_app]
    congr 1
    rw [List.append_assoc, show l.drop (i + 1) = (l.drop i).drop 1 by rw [List.drop_drop], List.take_append_drop, List.take_append_drop]
  have hOl : (flat cC ((l.drop i).take 1)).length = 6 := by rw [flat_len c6C, List.length_take, List.length_drop, hnl, Nat.min_eq_left (by omega)]
  obtain ⟨P, hP⟩ : ∃ P, flat cC (l.take i) = P := ⟨_, rfl⟩
  obtain ⟨X0, hX0⟩ : ∃ X0, flat cC ((l.drop i).take 1) = X0 := ⟨_, rfl⟩
  obtain ⟨S, hS⟩ : ∃ S, flat cC (l.drop (i + 1)) = S := ⟨_, rfl⟩
  have hS1 : ∀ u ∈ S, u.oneCell' = true := by rw [← hS]; exact flat_one c6C _
  have HSX := Lib.hid (show flat cC (l.take i ++ x :: l.drop (i + 1)) = P ++ cC x ++ S by rw [flat_app, ← hP, ← hS]; show _ ++ (cC x ++ flat cC (l.drop (i + 1))) = _; rw [List.append_assoc])
  have HLL := Lib.hid (show (l.take i ++ x :: l.drop (i + 1)).length = n by simp [hnl]; omega)
  rw [hP, hX0, hS] at hPS
  rw [hPS] at hb
  rw [hP] at hPl
  rw [hX0] at hOl
  rw [hS] at hSl
  obtain ⟨Y, hY⟩ : ∃ Y, Y = P ++ X0 ++ (S ++ sp) := ⟨_, rfl⟩
  have hb : Blk w g Y.toArray 90 := by rw [hY]; simpa [List.append_assoc] using hb
  have hYl : Y.length = cap * 6 := by rw [hY]; simp [hPl, hSl, hsp, hOl]; omega
  obtain ⟨Y1, hY1⟩ : ∃ Y1, Y1 = P ++ cC x ++ S ++ sp := ⟨_, rfl⟩
  have hY1l : Y1.length = cap * 6 := by rw [hY1]; simp [hPl, hSl, hsp, hXl]; omega
  have hcp1 : ∀ W, Bel w W → ∀ ty, (Builtin.copy_ #[22, 22] ty #[.slice (some ⟨g, i * 6, none⟩) (n - i) (cap - i), .slice (some ⟨xb, 0, none⟩) 1 1]).run Tryz.prog W = .ok (goInt (1 : Nat)) (W.setRow g Y1.toArray) := fun W hW ty => by
    have hmin : Nat.min 1 (n - i) = 1 := by show min _ _ = _; omega
    have hr := run_copy6 W 22 22 ty 90 g (i * 6) (n - i) (cap - i) ⟨xb, 0, none⟩ 1 1 Y _ (cC x) Tryz.underlying22 info_c (hb.bel hW) (by rw [hmin, hXl]) (fun j u hj => by
      rw [add_at, Nat.zero_add]
      exact (hx.bel hW).cell _ (by simpa using hj)) (by rw [hYl, hXl]; omega) (c6C.one x)
    rw [hr, hmin, hY1, hXl, hY, cut1 P X0 (S ++ sp) (cC x) (i * 6) hPl hOl hXl]
    simp only [List.append_assoc]
  have hcp2 : ∀ W, Blk W g Y1.toArray 90 → ∀ ty, (Builtin.copy_ #[22, 22] ty #[.slice (some ⟨g, (i + 1) * 6, none⟩) (n - (i + 1)) (cap - (i + 1)), .slice (some ⟨g, (i + 1) * 6, none⟩) (n - (i + 1)) (cap - (i + 1))]).run Tryz.prog W = .ok (goInt (n - (i + 1) : Nat)) (W.setRow g Y1.toArray) := fun W hW ty => by
    have hmin : Nat.min (n - (i + 1)) (n - (i + 1)) = n - (i + 1) := by show min _ _ = _; omega
    have hq : (P ++ cC x).length = (i + 1) * 6 := by simp [hPl, hXl]; omega
    have hr := run_copy6 W 22 22 ty 90 g ((i + 1) * 6) (n - (i + 1)) (cap - (i + 1)) ⟨g, (i + 1) * 6, none⟩ (n - (i + 1)) (cap - (i + 1)) Y1 _ S Tryz.underlying22 info_c hW (by rw [hmin, hSl]) (fun j u hj => by
      rw [add_at]
      refine hW.cell _ ?_
      have hj2 := (List.getElem?_eq_some_iff.1 hj).1
      rw [List.getElem?_toArray, hY1, List.append_assoc _ S sp, List.getElem?_append_right (by omega), hq, Nat.add_sub_cancel_left, List.getElem?_append_left hj2]
      exact hj) (by rw [hY1l, hSl]; omega) hS1
    rw [hr, hmin]
    congr 3
    rw [hY1]
    exact splice_self (P ++ cC x) sp S ((i + 1) * 6) hq
  obtain ⟨D, hD⟩ : ∃ D : Addr, (if cap = n then (⟨g, 0, none⟩ : Addr) else ⟨g, n * 6, none⟩) = D := ⟨_, rfl⟩
  have hcl : ∀ W ty, (Builtin.clear_ #[22] ty #[.slice (some D) 0 (cap - n)]).run Tryz.prog W = .ok (.tuple #[]) W := fun W ty => by
    simp [Builtin.clear_, run_underlying Tryz.underlying22]
  have hs1 := fun W => slice_hrC g n cap i W (by omega)
  have hs2 := fun W => slice_ltC g n cap (i + 1) W (by omega) (by omega)
  have hs3 := fun W => slice_ltC g n cap i W (by omega) (by omega)
  have hs4 := fun W => slice_hrC g n cap n W (by omega)
  have hs5 := fun W => slice_lC g n cap n W (by omega) (by omega)
  have hs6 := fun W => slice_lhC g n cap i (i + 1) W (by omega) (by omega) (by omega)
  rw [hD] at hs5
  push_cast at hs2 hs6
  obtain ⟨k, hk⟩ : ∃ k, n - (i + 1) = k := ⟨_, rfl⟩
  have hkn : (i : Int) + 1 + k = n := by omega
  rw [hk] at hs2 hcp2
  have HCP1 := Lib.hid hcp1
  have HCP2 := Lib.hid hcp2
  have HCL := Lib.hid hcl
  have HB := Lib.hid hb
  have HY1 := Lib.hid hY1
  have HSP := Lib.hid hsp
  have hin : (i : Int) + 1 < n := by omega
  have hie : ((i : Int) == (i : Int) + 1) = false := by rw [beq_eq_false_iff_ne]; omega
  have hie2 : ((i : Int) + 1 == (n : Int)) = false := by rw [beq_eq_false_iff_ne]; omega
  have hnc : (n : Int) ≤ cap := by omega
  have HKK := Lib.hid hk
  clear hcp1 hcp2 hcl hb hx hYl hSl hY hY1 hY1l hP hS hS1 hPl hPS hXl hOl hX0 hsp h hnl hD hcap hi
  go_enter Tryz.func222, Tryz.ntmps222
  go_upto_region 9 with fail
  have hw1 : IntKind.i64.wrap ((i : Int) + 1) = (i : Int) + 1 := IntWalk.i64_in _ ⟨by omega, by omega⟩
  have hw2 : IntKind.i64.wrap ((i : Int) + 1 + k) = (n : Int) := by rw [hkn]; exact IntWalk.i64_in _ ⟨by omega, by omega⟩
  have HKN := Lib.hid hkn
  clear hkn
  refine wp_region_held_drew (S := fun Vx => Bel w Vx) (by kernel_rfl) (Bel.refl _).drew (fun hS0 => ?_)
  obtain ⟨w6, hw6⟩ : ∃ w6, World.drew w = w6 := ⟨_, rfl⟩
  rw [hw6] at hS0 ⊢
  clear hw6
  refine ztk 0 { dst := some 45, op := .move (.tmp 0), type := 22, pos := "slices.go:276", after := #[], guard := none } (.slice (some ⟨g, 0, none⟩) n cap) (Or.inl ⟨by rfl, by intro w hSw; clear hSw; go_simp⟩) hS0 ?_
  try simp only [Act.put, zq1, zq2, zq3]
  refine ztk 1 { dst := some 46, op := .move (.tmp 1), type := 3, pos := "slices.go:276", after := #[], guard := none } (.int .i64 i) (Or.inl ⟨by rfl, by intro w hSw; clear hSw; go_simp⟩) hS0 ?_
  try simp only [Act.put, zq1, zq2, zq3]
  refine ztk 2 { dst := some 47, op := .slice 22 (.tmp 45) none (some (.tmp 46)) none, type := 22, pos := "slices.go:276", after := #[{ on := 0, ground := .data }, { on := 1, ground := .data }], guard := none } (.slice (some ⟨g, 0, none⟩) i cap) (Or.inl ⟨by rfl, by intro w hSw; clear hSw; go_simp⟩) hS0 ?_
  try simp only [Act.put, zq1, zq2, zq3]
  refine ztk 3 { dst := some 48, op := .call { callee := .builtin .len, args := #[.tmp 47], argTypes := #[22] }, type := 3, pos := "slices.go:276", after := #[{ on := 2, ground := .data }], guard := none } (.int .i64 i) (Or.inl ⟨by rfl, by intro w hSw; clear hSw; go_simp⟩) hS0 ?_
  try simp only [Act.put, zq1, zq2, zq3]
  refine ztk 4 { dst := some 49, op := .move (.tmp 3), type := 22, pos := "slices.go:276", after := #[], guard := none } (.slice (some ⟨xb, 0, none⟩) 1 1) (Or.inl ⟨by rfl, by intro w hSw; clear hSw; go_simp⟩) hS0 ?_
  try simp only [Act.put, zq1, zq2, zq3]
  refine ztk 5 { dst := some 50, op := .call { callee := .builtin .len, args := #[.tmp 49], argTypes := #[22] }, type := 3, pos := "slices.go:276", after := #[{ on := 4, ground := .data }], guard := none } (.int .i64 1) (Or.inl ⟨by rfl, by intro w hSw; clear hSw; go_simp⟩) hS0 ?_
  try simp only [Act.put, zq1, zq2, zq3]
  refine ztk 6 { dst := some 51, op := .binOp .add 3 (.tmp 48) (.tmp 50) 3, type := 3, pos := "slices.go:276", after := #[{ on := 3, ground := .data }, { on := 5, ground := .data }], guard := none } (.int .i64 ((i : Int) + 1)) (Or.inl ⟨by rfl, by intro w hSw; clear hSw; go_simp⟩) hS0 ?_
  try simp only [Act.put, zq1, zq2, zq3]
  refine ztk 7 { dst := some 52, op := .move (.tmp 0), type := 22, pos := "slices.go:276", after := #[], guard := none } (.slice (some ⟨g, 0, none⟩) n cap) (Or.inl ⟨by rfl, by intro w hSw; clear hSw; go_simp⟩) hS0 ?_
  try simp only [Act.put, zq1, zq2, zq3]
  refine ztk 8 { dst := some 53, op := .move (.tmp 2), type := 3, pos := "slices.go:276", after := #[], guard := none } (.int .i64 ((i : Int) + 1)) (Or.inl ⟨by rfl, by intro w hSw; clear hSw; go_simp⟩) hS0 ?_
  try simp only [Act.put, zq1, zq2, zq3]
  refine ztk 9 { dst := some 54, op := .slice 22 (.tmp 52) (some (.tmp 53)) none none, type := 22, pos := "slices.go:276", after := #[{ on := 7, ground := .data }, { on := 8, ground := .data }], guard := none } (.slice (some ⟨g, (i + 1) * 6, none⟩) k (cap - (i + 1))) (Or.inl ⟨by rfl, by intro w hSw; clear hSw; go_simp⟩) hS0 ?_
  try simp only [Act.put, zq1, zq2, zq3]
  refine ztk 10 { dst := some 55, op := .call { callee := .builtin .len, args := #[.tmp 54], argTypes := #[22] }, type := 3, pos := "slices.go:276", after := #[{ on := 9, ground := .data }], guard := none } (.int .i64 k) (Or.inl ⟨by rfl, by intro w hSw; clear hSw; go_simp⟩) hS0 ?_
  try simp only [Act.put, zq1, zq2, zq3]
  refine ztk 11 { dst := some 56, op := .binOp .add 3 (.tmp 51) (.tmp 55) 3, type := 3, pos := "slices.go:276", after := #[{ on := 6, ground := .data }, { on := 10, ground := .data }], guard := none } (.int .i64 n) (Or.inl ⟨by rfl, by intro w hSw; clear hSw; go_simp⟩) hS0 ?_
  try simp only [Act.put, zq1, zq2, zq3]
  refine ztk 12 { dst := some 10, op := .assign (.tmp 56), type := 3, pos := "slices.go:276", after := #[{ on := 11, ground := .data }, { on := 0, ground := .phase }, { on := 1, ground := .phase }, { on := 2, ground := .phase }, { on := 3, ground := .phase }, { on := 4, ground := .phase }, { on := 5, ground := .phase }, { on := 6, ground := .phase }, { on := 7, ground := .phase }, { on := 8, ground := .phase }, { on := 9, ground := .phase }, { on := 10, ground := .phase }, { on := 11, ground := .phase }], guard := none } (.int .i64 n) (Or.inl ⟨by rfl, by intro w hSw; clear hSw; go_simp⟩) hS0 ?_
  try simp only [Act.put, zq1, zq2, zq3]
  refine wpAnyH_done (by kernel_rfl) ?_ _
  have HE0 := Lib.hid hS0
  clear hw1 hw2
  go_upto_region 18 with ((with_reducible refine wpList_copy_run rfl _ _ 22 22 rfl _ _ rfl rfl (HCP1.out w6 HE0.out _) ?_))
  have HB1 := Lib.hid (blk_setRow (HB.out.bel HE0.out) Y1.toArray)
  have HK1 := Lib.hid ((Kep.of_bel (S := fun b => b = g) HE0.out).trans (kep_setRow w6 g Y1.toArray))
  obtain ⟨W1, hW1⟩ : ∃ W1, w6.setRow g Y1.toArray = W1 := ⟨_, rfl⟩
  rw [hW1] at HB1 HK1 ⊢
  clear hW1
  have hw1 : IntKind.i64.wrap ((i : Int) + 1) = (i : Int) + 1 := IntWalk.i64_in _ ⟨by omega, by omega⟩
  refine wp_region_held_drew (S := fun Vx => Kep (fun b => b = g) W1 Vx) (by kernel_rfl) (Kep.drew (Kep.refl _ _)) (fun hS0 => ?_)
  have HW6 := Lib.hid (show Bel W1 W1.drew from (Bel.refl _).drew)
  obtain ⟨w7, hw7⟩ : ∃ w7, World.drew W1 = w7 := ⟨_, rfl⟩
  rw [hw7] at hS0 HW6 ⊢
  clear hw7
  refine ztk 0 { dst := some 98, op := .move (.tmp 12), type := 22, pos := "slices.go:290", after := #[], guard := none } (.slice (some ⟨g, 0, none⟩) n cap) (Or.inl ⟨by rfl, by intro w hSw; clear hSw; go_simp⟩) hS0 ?_
  try simp only [Act.put, zq1, zq2, zq3]
  refine ztk 1 { dst := some 99, op := .move (.tmp 1), type := 3, pos := "slices.go:290", after := #[], guard := none } (.int .i64 i) (Or.inl ⟨by rfl, by intro w hSw; clear hSw; go_simp⟩) hS0 ?_
  try simp only [Act.put, zq1, zq2, zq3]
  refine ztk 2 { dst := some 100, op := .move (.tmp 3), type := 22, pos := "slices.go:290", after := #[], guard := none } (.slice (some ⟨xb, 0, none⟩) 1 1) (Or.inl ⟨by rfl, by intro w hSw; clear hSw; go_simp⟩) hS0 ?_
  try simp only [Act.put, zq1, zq2, zq3]
  refine ztk 3 { dst := some 101, op := .call { callee := .builtin .len, args := #[.tmp 100], argTypes := #[22] }, type := 3, pos := "slices.go:290", after := #[{ on := 2, ground := .data }], guard := none } (.int .i64 1) (Or.inl ⟨by rfl, by intro w hSw; clear hSw; go_simp⟩) hS0 ?_
  try simp only [Act.put, zq1, zq2, zq3]
  refine ztk 4 { dst := some 102, op := .binOp .add 3 (.tmp 99) (.tmp 101) 3, type := 3, pos := "slices.go:290", after := #[{ on := 1, ground := .data }, { on := 3, ground := .data }], guard := none } (.int .i64 ((i : Int) + 1)) (Or.inl ⟨by rfl, by intro w hSw; clear hSw; go_simp⟩) hS0 ?_
  try simp only [Act.put, zq1, zq2, zq3]
  refine ztk 5 { dst := some 103, op := .slice 22 (.tmp 98) (some (.tmp 102)) none none, type := 22, pos := "slices.go:290", after := #[{ on := 0, ground := .data }, { on := 4, ground := .data }], guard := none } (.slice (some ⟨g, (i + 1) * 6, none⟩) k (cap - (i + 1))) (Or.inl ⟨by rfl, by intro w hSw; clear hSw; go_simp⟩) hS0 ?_
  try simp only [Act.put, zq1, zq2, zq3]
  refine ztk 6 { dst := some 104, op := .move (.tmp 0), type := 22, pos := "slices.go:290", after := #[], guard := none } (.slice (some ⟨g, 0, none⟩) n cap) (Or.inl ⟨by rfl, by intro w hSw; clear hSw; go_simp⟩) hS0 ?_
  try simp only [Act.put, zq1, zq2, zq3]
  refine ztk 7 { dst := some 105, op := .move (.tmp 2), type := 3, pos := "slices.go:290", after := #[], guard := none } (.int .i64 ((i : Int) + 1)) (Or.inl ⟨by rfl, by intro w hSw; clear hSw; go_simp⟩) hS0 ?_
  try simp only [Act.put, zq1, zq2, zq3]
  refine ztk 8 { dst := some 106, op := .slice 22 (.tmp 104) (some (.tmp 105)) none none, type := 22, pos := "slices.go:290", after := #[{ on := 6, ground := .data }, { on := 7, ground := .data }], guard := none } (.slice (some ⟨g, (i + 1) * 6, none⟩) k (cap - (i + 1))) (Or.inl ⟨by rfl, by intro w hSw; clear hSw; go_simp⟩) hS0 ?_
  try simp only [Act.put, zq1, zq2, zq3]
  refine wpAnyH_ready (rs := [9]) (by kernel_rfl) (by simp) ?_
  refine AllReadyH.cons (o := { dst := some 107, op := .call { callee := .builtin .copy, args := #[.tmp 103, .tmp 106], argTypes := #[22, 22] }, type := 3, pos := "slices.go:290", after := #[{ on := 5, ground := .data }, { on := 8, ground := .data }], guard := none }) rfl (fun K hK => ?_) AllReadyH.nil
  refine step_copy_run rfl (.tmp 103) (.tmp 106) 22 22 rfl _ _ (by simp [Act.eval, Act.put]) (by simp [Act.eval, Act.put]) (HCP2.out w7 (HB1.out.bel HW6.out) _) ?_
  refine hK.out _ _ (hS0.trans (kep_setRow _ _ _)) (fun hS1 => ?_)
  clear hK K
  try simp only [Act.put, zq1, zq2, zq3]
  refine wpAnyH_done (by kernel_rfl) ?_ _
  have HE := Lib.hid hS1
  have HB2 := Lib.hid (blk_setRow (HB1.out.bel HW6.out) Y1.toArray)
  obtain ⟨W2, hW2⟩ : ∃ W2, w7.setRow g Y1.toArray = W2 := ⟨_, rfl⟩
  rw [hW2] at HE HB2 ⊢
  clear hW2 hS0 hw1
  go_wp2_with ((with_reducible refine wpList_clear_run rfl _ 22 rfl _ rfl (HCL.out W2 _) ?_))
  go_ret
  exact ⟨rfl, rb_mk c6C (w := W2) (by rw [HSX.out, ← HY1.out]; exact HB2.out) (by rw [HLL.out]; exact HSP.out) (by rw [HLL.out]; omega), HK1.out.trans HE.out⟩

set_option maxRecDepth 100000 in
set_option maxHeartbeats 4000000 in
/-- Nothing is replaced: it comes in. -/
theorem replace_insC (A : Option Addr) (n c i xb : Nat) (w : World) (R : Value → World → Prop) (hi : i ≤ n) (hc : n ≤ c) (h : Calls Tryz.prog 233 #[.slice A n c, .int .i64 i, .slice (some ⟨xb, 0, none⟩) 1 1] w fun e w' => ∃ v', e = .returned v' ∧ R v' w') :
    Calls Tryz.prog 222 #[.slice A n c, .int .i64 i, .int .i64 i, .slice (some ⟨xb, 0, none⟩) 1 1] w fun e w' => ∃ v', e = .returned v' ∧ R v' w' := by
  have H := Lib.hid h
  obtain ⟨D, hsl⟩ : ∃ D, ∀ W, (Instr.slice 22 (.slice A n c) (some (.int .i64 i)) (some (.int .i64 i)) none).run Tryz.prog W = .ok (.slice D (i - i) (c - i)) W := by
    have e : Tryz.prog.elem 22 = 90 := by kernel_rfl
    refine ⟨(if c = i then A else A.map (·.add (i * 6))), fun W => ?_⟩
    rw [run_slice_lh (P := Tryz.prog) (w := W) (t := 22) (a := A) (len := n) (cap := c) (by rw [e]; exact Tryz.underlying22) .i64 .i64 i i (by omega) (by omega) (by omega), e]
    simp [Tryz.sizeOf90, Result.andThen, sliced]
  clear h
  go_enter Tryz.func222, Tryz.ntmps222
  go_wp2_with fail
  refine H.out.mono ?_
  rintro e w1 ⟨v', rfl, hR⟩
  have HR := Lib.hid hR
  clear hR
  go_wp2_with fail
  go_ret
  exact ⟨_, rfl, HR.out⟩
set_option maxRecDepth 100000 in
set_option maxHeartbeats 4000000 in
/-- A list with a row in its place, or with nothing there. -/
theorem putC (v : Value) (base : Nat) (l : List R6) (x1 x2 x3 x4 x5 x6 : Int) (s : Bool) (w : World) (h : OwnR cC 90 w base v l) (hs : Srt ordC l) (hn : l.length ≤ 1000000) (hst : s = false → inB ordC l (x1, x2, x3, x4, x5, x6) = true) (hb : base ≤ w.heap.size) :
    Calls Tryz.prog 207 #[v, .agg #[.int .i64 x1, .int .i64 x2, .int .i64 x3, .int .i64 x4, .int .u64 x5, .int .u64 x6], .func (.func 130) #[] #[], .bool s] w fun e w' => ∃ v', e = .returned v' ∧ OwnR cC 90 w' base v' (put ordC l (x1, x2, x3, x4, x5, x6) s) ∧ Kep (fun b => v.ownBlock = some b) w w' := by
  obtain ⟨A, c, rfl, hrs, hcm, _⟩ := h.rs c6C
  obtain ⟨n, hnl⟩ : ∃ n, l.length = n := ⟨_, rfl⟩
  have HO := Lib.hid h
  have HNL := Lib.hid hnl
  rw [hnl] at hrs hn ⊢
  have hpl := pos_le ordC l (x1, x2, x3, x4, x5, x6)
  rw [hnl] at hpl
  have HPA := Lib.hid (put_at ordC l (x1, x2, x3, x4, x5, x6) s)
  have HIT := Lib.hid (show inB ordC l (x1, x2, x3, x4, x5, x6) = true → pos ordC l (x1, x2, x3, x4, x5, x6) < n from fun hi => by
    rcases Nat.lt_or_ge (pos ordC l (x1, x2, x3, x4, x5, x6)) n with hh | hh
    · exact hh
    · rw [inB_no ordC l _ (List.getElem?_eq_none (by rw [hnl]; exact hh))] at hi; cases hi)
  obtain ⟨R, hR⟩ : ∃ R, put ordC l (x1, x2, x3, x4, x5, x6) s = R := ⟨_, rfl⟩
  rw [hR] at HPA ⊢
  have FD := Lib.hid (fun V (hv : Bel w V) => findC A n c l x1 x2 x3 x4 x5 x6 V (hrs.bel hv) (by omega) hs)
  have HST := Lib.hid hst
  obtain ⟨I, hI⟩ : ∃ I, inB ordC l (x1, x2, x3, x4, x5, x6) = I := ⟨_, rfl⟩
  obtain ⟨i, hi⟩ : ∃ i, pos ordC l (x1, x2, x3, x4, x5, x6) = i := ⟨_, rfl⟩
  rw [hI, hi] at FD HPA
  rw [hI] at HST HIT
  rw [hi] at HIT hpl
  obtain ⟨W, hW⟩ : ∃ W, w.alloc (.cells #[.int .i64 x1, .int .i64 x2, .int .i64 x3, .int .i64 x4, .int .u64 x5, .int .u64 x6] 90) = W := ⟨_, rfl⟩
  have P0 := boxC x1 x2 x3 x4 x5 x6 w
  have B0 : Bel w W := by rw [← hW]; exact (Bel.refl _).alloc _
  rw [hW] at P0
  have HB := Lib.hid B0
  have HCAP := Lib.hid hrs.cap
  clear hR hI hi h hs hst hrs hnl B0
  go_enter Tryz.func207, Tryz.ntmps207
  go_upto_region 1 with fail
  obtain ⟨g, hg⟩ : ∃ g, w.heap.size = g := ⟨_, rfl⟩
  rw [hg]
  rw [hg] at P0
  have Q0 := Lib.hid P0
  have HG := Lib.hid hg
  clear P0 hW hg
  obtain ⟨c0, c1, c2, c3, c4, c5⟩ := rng6 (rngB (C := [.int .i64 x1, .int .i64 x2, .int .i64 x3, .int .i64 x4, .int .u64 x5, .int .u64 x6]) Q0.out)
  rw [Nat.zero_add] at c1 c2 c3 c4 c5
  go_wp2_with fail
  refine (FD.out _ HB.out).mono ?_
  rintro e V ⟨rfl, kb⟩
  have BV := Lib.hid (HB.out.trans kb)
  have QV := Lib.hid (Q0.out.bel kb)
  have OV := Lib.hid (HO.out.bel BV.out)
  clear kb c0 c1 c2 c3 c4 c5 FD HO Q0
  have hbV : base ≤ V.heap.size := Nat.le_trans hb (Below.size BV.out)
  obtain ⟨c0, c1, c2, c3, c4, c5⟩ := rng6 (rngB (C := [.int .i64 x1, .int .i64 x2, .int .i64 x3, .int .i64 x4, .int .u64 x5, .int .u64 x6]) QV.out)
  rw [Nat.zero_add] at c1 c2 c3 c4 c5
  have hXR := fun V2 (hv : Bel V V2) => Blk.new V2 #[.int .i64 x1, .int .i64 x2, .int .i64 x3, .int .i64 x4, .int .u64 x5, .int .u64 x6] 90
  cases s
  · obtain rfl : I = true := HST.out rfl
    have hin : i < n := HIT.out rfl
    obtain ⟨gl, cap, e3, hgl, hrb, hcap⟩ := rb_own c6C OV.out (by rw [HNL.out]; omega)
    injection e3 with e1 e2 e3
    subst e1 e3
    have DL := Lib.hid (deleteC gl c i l V hrb (by rw [HNL.out]; exact hin) (by rw [HNL.out]; omega) hcap)
    rw [HNL.out] at DL
    have HL2 := Lib.hid (show (l.take i ++ l.drop (i + 1)).length = n - 1 by rw [List.length_append, List.length_take, List.length_drop, HNL.out]; omega)
    have hp : R = l.take i ++ l.drop (i + 1) := by rw [HPA.out]; simp
    have HP := Lib.hid hp
    clear hrb hXR hp
    go_wp2_with fail
    refine DL.out.mono ?_
    rintro e V2 ⟨rfl, hr2, hk2⟩
    have HR2 := Lib.hid hr2
    have HK2 := Lib.hid hk2
    clear hr2 hk2 c0 c1 c2 c3 c4 c5
    go_wp2_with fail
    go_ret
    refine ⟨_, rfl, ?_, ?_⟩
    · rw [HP.out, ← HL2.out]
      exact own_rb HR2.out (Nat.le_trans hgl (Nat.le_refl _)) hcap
    · exact ((Kep.of_bel BV.out).trans HK2.out).mono (fun k _ e => by rw [e]; rfl)
  · cases I
    · -- it comes in
      have hp : R = l.take i ++ (x1, x2, x3, x4, x5, x6) :: l.drop i := by rw [HPA.out]; simp
      have HP := Lib.hid hp
      clear hp
      have IN := Lib.hid (show ∀ V2 xb, Bel V V2 → Blk V2 xb #[.int .i64 x1, .int .i64 x2, .int .i64 x3, .int .i64 x4, .int .u64 x5, .int .u64 x6] 90 → V.heap.size ≤ xb → Calls Tryz.prog 233 #[.slice A n c, .int .i64 i, .slice (some ⟨xb, 0, none⟩) 1 1] V2 fun e w' => ∃ v', e = .returned v' ∧ OwnR cC 90 w' base v' R ∧ Kep (fun b => (Value.slice A n c).ownBlock = some b) V2 w' from fun V2 xb hv hx hxb => by
        have hx : Blk V2 xb (cC (x1, x2, x3, x4, x5, x6)).toArray 90 := hx
        have hO2 := OV.out.bel hv
        rw [HP.out]
        by_cases hend : i = n
        · subst hend
          have := insert_endC (.slice A i c) l (x1, x2, x3, x4, x5, x6) base xb V2 (by rw [HNL.out] at hO2; exact hO2) (by rw [HNL.out]; omega) hx (Nat.le_trans hbV (Below.size hv))
          rw [HNL.out] at this
          refine this.mono ?_
          rintro e w' ⟨v', h1, h2, h3⟩
          refine ⟨v', h1, ?_, h3⟩
          rw [List.take_of_length_le (by rw [HNL.out]; exact Nat.le_refl _), List.drop_eq_nil_of_le (by rw [HNL.out]; exact Nat.le_refl _)]
          exact h2
        · obtain ⟨gl, cap, e3, hgl, hrb, hcap⟩ := rb_own c6C hO2 (by rw [HNL.out]; omega)
          rw [HNL.out] at e3
          injection e3 with e1 e2 e3
          subst e1 e3
          have hne : xb ≠ gl := by
            have h1 := (OV.out.lt gl rfl).2
            omega
          by_cases hroom : n < c
          · have := insert_roomC gl c i l (x1, x2, x3, x4, x5, x6) xb V2 hrb (by rw [HNL.out]; omega) (by rw [HNL.out]; omega) hcap (by rw [HNL.out]; exact hroom) hx hne
            rw [HNL.out] at this
            refine this.mono ?_
            rintro e w' ⟨h1, h2, h3⟩
            have hl : (l.take i ++ (x1, x2, x3, x4, x5, x6) :: l.drop i).length = n + 1 := by simp [HNL.out]; omega
            exact ⟨_, h1, by rw [← hl]; exact own_rb h2 hgl hcap, h3.mono (fun k _ e => by rw [e]; rfl)⟩
          · have := insert_growC gl c i l (x1, x2, x3, x4, x5, x6) xb V2 hrb (by rw [HNL.out]; omega) (by rw [HNL.out]; omega) hcap (by rw [HNL.out]; exact hroom) hx
            rw [HNL.out] at this
            refine this.mono ?_
            rintro e w' ⟨g2, c2, h1, h2, h3, h4, h5⟩
            have hl : (l.take i ++ (x1, x2, x3, x4, x5, x6) :: l.drop i).length = n + 1 := by simp [HNL.out]; omega
            exact ⟨_, h1, by rw [← hl]; exact own_rb h2 (Nat.le_trans hbV (Nat.le_trans (Below.size hv) h4)) h5, Kep.of_bel h3⟩)
      have RI := Lib.hid (fun V2 xb hv hx hxb => replace_insC A n c i xb V2 (fun v' w' => OwnR cC 90 w' base v' R ∧ Kep (fun b => (Value.slice A n c).ownBlock = some b) V2 w') hpl HCAP.out (IN.out V2 xb hv hx hxb))
      have HXB := Lib.hid (Blk.new V #[.int .i64 x1, .int .i64 x2, .int .i64 x3, .int .i64 x4, .int .u64 x5, .int .u64 x6] 90)
      obtain ⟨V3, hV3⟩ : ∃ V3, V.alloc (.cells #[.int .i64 x1, .int .i64 x2, .int .i64 x3, .int .i64 x4, .int .u64 x5, .int .u64 x6] 90) = V3 := ⟨_, rfl⟩
      have BV3 := Lib.hid (show Bel V V3 by rw [← hV3]; exact (Bel.refl _).alloc _)
      rw [hV3] at HXB
      clear hXR IN
      go_wp2_with fail
      refine (RI.out _ _ BV3.out HXB.out (Nat.le_refl _)).mono ?_
      rintro e V4 ⟨v', rfl, hR, hk⟩
      have HR := Lib.hid hR
      have HK := Lib.hid hk
      clear hR hk c0 c1 c2 c3 c4 c5 hV3
      go_wp2_with fail
      go_ret
      exact ⟨_, rfl, HR.out, (Kep.of_bel (BV.out.trans BV3.out)).trans HK.out⟩
    · -- it takes another one's place
      have hin : i < n := HIT.out rfl
      have hp : R = l.take i ++ (x1, x2, x3, x4, x5, x6) :: l.drop (i + 1) := by rw [HPA.out]; simp
      have HP := Lib.hid hp
      clear hp
      obtain ⟨gl, cap, e3, hgl, hrb, hcap⟩ := rb_own c6C OV.out (by rw [HNL.out]; omega)
      rw [HNL.out] at e3
      injection e3 with e1 e2 e3
      subst e1 e3
      have RI := Lib.hid (show ∀ V2 xb, Bel V V2 → Blk V2 xb #[.int .i64 x1, .int .i64 x2, .int .i64 x3, .int .i64 x4, .int .u64 x5, .int .u64 x6] 90 → Calls Tryz.prog 222 #[.slice (some ⟨gl, 0, none⟩) n c, .int .i64 i, .int .i64 ((i : Int) + 1), .slice (some ⟨xb, 0, none⟩) 1 1] V2 fun e w' => ∃ v', e = .returned v' ∧ OwnR cC 90 w' base v' R ∧ Kep (fun b => b = gl) V2 w' from fun V2 xb hv hx => by
        have hx : Blk V2 xb (cC (x1, x2, x3, x4, x5, x6)).toArray 90 := hx
        rw [HP.out]
        by_cases hend : i + 1 = n
        · have := replace_lastC gl c i base xb l (x1, x2, x3, x4, x5, x6) V2 (hrb.bel hv) (by rw [HNL.out]; exact hend) (by rw [HNL.out]; omega) hcap hx (Nat.le_trans hbV (Below.size hv)) hgl
          rwa [HNL.out] at this
        · have := replace_midC gl c i xb l (x1, x2, x3, x4, x5, x6) V2 (hrb.bel hv) (by rw [HNL.out]; omega) (by rw [HNL.out]; omega) hcap hx
          rw [HNL.out] at this
          refine this.mono ?_
          rintro e w' ⟨h1, h2, h3⟩
          have hl : (l.take i ++ (x1, x2, x3, x4, x5, x6) :: l.drop (i + 1)).length = n := by simp [HNL.out]; omega
          exact ⟨_, h1, by rw [← hl]; exact own_rb h2 hgl hcap, h3⟩)
      have HXB := Lib.hid (Blk.new V #[.int .i64 x1, .int .i64 x2, .int .i64 x3, .int .i64 x4, .int .u64 x5, .int .u64 x6] 90)
      obtain ⟨V3, hV3⟩ : ∃ V3, V.alloc (.cells #[.int .i64 x1, .int .i64 x2, .int .i64 x3, .int .i64 x4, .int .u64 x5, .int .u64 x6] 90) = V3 := ⟨_, rfl⟩
      have BV3 := Lib.hid (show Bel V V3 by rw [← hV3]; exact (Bel.refl _).alloc _)
      rw [hV3] at HXB
      clear hXR hrb
      go_wp2_with fail
      refine (RI.out _ _ BV3.out HXB.out).mono ?_
      rintro e V4 ⟨v', rfl, hR, hk⟩
      have HR := Lib.hid hR
      have HK := Lib.hid hk
      clear hR hk c0 c1 c2 c3 c4 c5 hV3
      go_wp2_with fail
      go_ret
      exact ⟨_, rfl, HR.out, ((Kep.of_bel (BV.out.trans BV3.out)).trans HK.out).mono (fun k _ e => by rw [e]; rfl)⟩

set_option maxRecDepth 100000 in
set_option maxHeartbeats 8000000 in
/-- The last one. -/
theorem replace_lastP (g cap i base xb : Nat) (l : List R6) (x : R6) (w : World) (h : RB cP 93 w g l cap) (hi : i + 1 = l.length) (hn : l.length ≤ 1000000000) (hm : cap ≤ maxLen) (hx : Blk w xb (cP x).toArray 93) (hb : base ≤ w.heap.size) (hg : base ≤ g) :
    Calls Tryz.prog 224 #[.slice (some ⟨g, 0, none⟩) l.length cap, .int .i64 i, .int .i64 ((i : Int) + 1), .slice (some ⟨xb, 0, none⟩) 1 1] w fun e w' => ∃ v', e = .returned v' ∧ OwnR cP 93 w' base v' (l.take i ++ x :: l.drop (i + 1)) ∧ Kep (fun b => b = g) w w' := by
  obtain ⟨n, hnl⟩ : ∃ n, l.length = n := ⟨_, rfl⟩
  have hcap := h.cap
  have HO := Lib.hid (own_pre c6P h hg hm (i := i) (by omega))
  have HX := Lib.hid (show RS cP w (some ⟨xb, 0, none⟩) 1 1 [x] from rs_blk c6P hx rfl (Nat.le_refl _) (by simpa [flat] using List.take_of_length_le (by rw [c6P.len]; exact Nat.le_refl _)))
  have HLI := Lib.hid (show (l.take i).length = i by rw [List.length_take]; omega)
  have HDR := Lib.hid (show l.drop (i + 1) = [] from List.drop_eq_nil_of_le (by omega))
  rw [hnl] at hi hn hcap ⊢
  unfold maxLen at hm
  have hs1 := fun W => slice_hrP g n cap i W (by omega)
  have hs2 := fun W => slice_lhP g n cap i (i + 1) W (by omega) (by omega) (by omega)
  push_cast at hs2
  have hie2 : ((i : Int) + 1 == (n : Int)) = true := by rw [beq_iff_eq]; omega
  have HIN := Lib.hid hi
  have hin : i < n := by omega
  clear hi
  have hie : ((i : Int) == (i : Int) + 1) = false := by rw [beq_eq_false_iff_ne]; omega
  clear h hx hnl
  go_enter Tryz.func224, Tryz.ntmps224
  go_wp2_with (at_builtin; refine wpList_append_P rfl _ _ rfl base _ (l.take i) rfl HO.out (some ⟨xb, 0, none⟩) 1 1 [x] rfl HX.out (by rw [HLI.out]; omega) hb ?_; intro v' w1 hown' hgrow; obtain ⟨A3, c3, e3, hr3, _⟩ := OwnR.rs c6P hown'; rw [show (l.take i ++ [x]).length = n from by rw [List.length_append, HLI.out]; exact HIN.out] at e3; subst e3; clear hr3)
  have HK := Lib.hid (Kep.grown (S := fun b => b = g) (Kep.refl _ w) hgrow (fun k e _ => by injection e with e; exact e.symm))
  have HO2 := Lib.hid hown'
  clear hown' hgrow
  (try go_wp2_with fail)
  go_ret
  exact ⟨_, rfl, by rw [HDR.out]; exact HO2.out, HK.out⟩
set_option maxRecDepth 100000 in
set_option maxHeartbeats 8000000 in
/-- One ahead of others. -/
theorem replace_midP (g cap i xb : Nat) (l : List R6) (x : R6) (w : World) (h : RB cP 93 w g l cap) (hi : i + 1 < l.length) (hn : l.length ≤ 1000000000) (hm : cap ≤ maxLen) (hx : Blk w xb (cP x).toArray 93) :
    Calls Tryz.prog 224 #[.slice (some ⟨g, 0, none⟩) l.length cap, .int .i64 i, .int .i64 ((i : Int) + 1), .slice (some ⟨xb, 0, none⟩) 1 1] w fun e w' => e = .returned (.slice (some ⟨g, 0, none⟩) l.length cap) ∧ RB cP 93 w' g (l.take i ++ x :: l.drop (i + 1)) cap ∧ Kep (fun b => b = g) w w' := by
  obtain ⟨n, hnl⟩ : ∃ n, l.length = n := ⟨_, rfl⟩
  have hcap := h.cap
  obtain ⟨sp, hb, hsp⟩ := rb_list c6P h
  rw [hnl] at hi hn hcap hsp ⊢
  unfold maxLen at hm
  have hXl := c6P.len x
  have hPl : (flat cP (l.take i)).length = i * 6 := by rw [flat_len c6P, List.length_take, hnl]; omega
  have hSl : (flat cP (l.drop (i + 1))).length = (n - (i + 1)) * 6 := by rw [flat_len c6P, List.length_drop, hnl]
  have hPS : flat cP l = flat cP (l.take i) ++ flat cP ((l.drop i).take 1) ++ flat cP (l.drop (i + 1)) := by
    rw [← flat_app, ← flat_app]
    congr 1
    rw [List.append_assoc, show l.drop (i + 1) = (l.drop i).drop 1 by rw [List.drop_drop], List.take_append_drop, List.take_append_drop]
  have hOl : (flat cP ((l.drop i).take 1)).length = 6 := by rw [flat_len c6P, List.length_take, List.length_drop, hnl, Nat.min_eq_left (by omega)]
  obtain ⟨P, hP⟩ : ∃ P, flat cP (l.take i) = P := ⟨_, rfl⟩
  obtain ⟨X0, hX0⟩ : ∃ X0, flat cP ((l.drop i).take 1) = X0 := ⟨_, rfl⟩
  obtain ⟨S, hS⟩ : ∃ S, flat cP (l.drop (i + 1)) = S := ⟨_, rfl⟩
  have hS1 : ∀ u ∈ S, u.oneCell' = true := by rw [← hS]; exact flat_one c6P _
  have HSX := Lib.hid (show flat cP (l.take i ++ x :: l.drop (i + 1)) = P ++ cP x ++ S by rw [flat_app, ← hP, ← hS]; show _ ++ (cP x ++ flat cP (l.drop (i + 1))) = _; rw [List.append_assoc])
  have HLL := Lib.hid (show (l.take i ++ x :: l.drop (i + 1)).length = n by simp [hnl]; omega)
  rw [hP, hX0, hS] at hPS
  rw [hPS] at hb
  rw [hP] at hPl
  rw [hX0] at hOl
  rw [hS] at hSl
  obtain ⟨Y, hY⟩ : ∃ Y, Y = P ++ X0 ++ (S ++ sp) := ⟨_, rfl⟩
  have hb : Blk w g Y.toArray 93 := by rw [hY]; simpa [List.append_assoc] using hb
  have hYl : Y.length = cap * 6 := by rw [hY]; simp [hPl, hSl, hsp, hOl]; omega
  obtain ⟨Y1, hY1⟩ : ∃ Y1, Y1 = P ++ cP x ++ S ++ sp := ⟨_, rfl⟩
  have hY1l : Y1.length = cap * 6 := by rw [hY1]; simp [hPl, hSl, hsp, hXl]; omega
  have hcp1 : ∀ W, Bel w W → ∀ ty, (Builtin.copy_ #[23, 23] ty #[.slice (some ⟨g, i * 6, none⟩) (n - i) (cap - i), .slice (some ⟨xb, 0, none⟩) 1 1]).run Tryz.prog W = .ok (goInt (1 : Nat)) (W.setRow g Y1.toArray) := fun W hW ty => by
    have hmin : Nat.min 1 (n - i) = 1 := by show min _ _ = _; omega
    have hr := run_copy6 W 23 23 ty 93 g (i * 6) (n - i) (cap - i) ⟨xb, 0, none⟩ 1 1 Y _ (cP x) Tryz.underlying23 info_p (hb.bel hW) (by rw [hmin, hXl]) (fun j u hj => by
      rw [add_at, Nat.zero_add]
      exact (hx.bel hW).cell _ (by simpa using hj)) (by rw [hYl, hXl]; omega) (c6P.one x)
    rw [hr, hmin, hY1, hXl, hY, cut1 P X0 (S ++ sp) (cP x) (i * 6) hPl hOl hXl]
    simp only [List.append_assoc]
  have hcp2 : ∀ W, Blk W g Y1.toArray 93 → ∀ ty, (Builtin.copy_ #[23, 23] ty #[.slice (some ⟨g, (i + 1) * 6, none⟩) (n - (i + 1)) (cap - (i + 1)), .slice (some ⟨g, (i + 1) * 6, none⟩) (n - (i + 1)) (cap - (i + 1))]).run Tryz.prog W = .ok (goInt (n - (i + 1) : Nat)) (W.setRow g Y1.toArray) := fun W hW ty => by
    have hmin : Nat.min (n - (i + 1)) (n - (i + 1)) = n - (i + 1) := by show min _ _ = _; omega
    have hq : (P ++ cP x).length = (i + 1) * 6 := by simp [hPl, hXl]; omega
    have hr := run_copy6 W 23 23 ty 93 g ((i + 1) * 6) (n - (i + 1)) (cap - (i + 1)) ⟨g, (i + 1) * 6, none⟩ (n - (i + 1)) (cap - (i + 1)) Y1 _ S Tryz.underlying23 info_p hW (by rw [hmin, hSl]) (fun j u hj => by
      rw [add_at]
      refine hW.cell _ ?_
      have hj2 := (List.getElem?_eq_some_iff.1 hj).1
      rw [List.getElem?_toArray, hY1, List.append_assoc _ S sp, List.getElem?_append_right (by omega), hq, Nat.add_sub_cancel_left, List.getElem?_append_left hj2]
      exact hj) (by rw [hY1l, hSl]; omega) hS1
    rw [hr, hmin]
    congr 3
    rw [hY1]
    exact splice_self (P ++ cP x) sp S ((i + 1) * 6) hq
  obtain ⟨D, hD⟩ : ∃ D : Addr, (if cap = n then (⟨g, 0, none⟩ : Addr) else ⟨g, n * 6, none⟩) = D := ⟨_, rfl⟩
  have hcl : ∀ W ty, (Builtin.clear_ #[23] ty #[.slice (some D) 0 (cap - n)]).run Tryz.prog W = .ok (.tuple #[]) W := fun W ty => by
    simp [Builtin.clear_, run_underlying Tryz.underlying23]
  have hs1 := fun W => slice_hrP g n cap i W (by omega)
  have hs2 := fun W => slice_ltP g n cap (i + 1) W (by omega) (by omega)
  have hs3 := fun W => slice_ltP g n cap i W (by omega) (by omega)
  have hs4 := fun W => slice_hrP g n cap n W (by omega)
  have hs5 := fun W => slice_lP g n cap n W (by omega) (by omega)
  have hs6 := fun W => slice_lhP g n cap i (i + 1) W (by omega) (by omega) (by omega)
  rw [hD] at hs5
  push_cast at hs2 hs6
  obtain ⟨k, hk⟩ : ∃ k, n - (i + 1) = k := ⟨_, rfl⟩
  have hkn : (i : Int) + 1 + k = n := by omega
  rw [hk] at hs2 hcp2
  have HCP1 := Lib.hid hcp1
  have HCP2 := Lib.hid hcp2
  have HCL := Lib.hid hcl
  have HB := Lib.hid hb
  have HY1 := Lib.hid hY1
  have HSP := Lib.hid hsp
  have hin : (i : Int) + 1 < n := by omega
  have hie : ((i : Int) == (i : Int) + 1) = false := by rw [beq_eq_false_iff_ne]; omega
  have hie2 : ((i : Int) + 1 == (n : Int)) = false := by rw [beq_eq_false_iff_ne]; omega
  have hnc : (n : Int) ≤ cap := by omega
  have HKK := Lib.hid hk
  clear hcp1 hcp2 hcl hb hx hYl hSl hY hY1 hY1l hP hS hS1 hPl hPS hXl hOl hX0 hsp h hnl hD hcap hi
  go_enter Tryz.func224, Tryz.ntmps224
  go_upto_region 9 with fail
  have hw1 : IntKind.i64.wrap ((i : Int) + 1) = (i : Int) + 1 := IntWalk.i64_in _ ⟨by omega, by omega⟩
  have hw2 : IntKind.i64.wrap ((i : Int) + 1 + k) = (n : Int) := by rw [hkn]; exact IntWalk.i64_in _ ⟨by omega, by omega⟩
  have HKN := Lib.hid hkn
  clear hkn
  refine wp_region_held_drew (S := fun Vx => Bel w Vx) (by kernel_rfl) (Bel.refl _).drew (fun hS0 => ?_)
  obtain ⟨w6, hw6⟩ : ∃ w6, World.drew w = w6 := ⟨_, rfl⟩
  rw [hw6] at hS0 ⊢
  clear hw6
  refine ztk 0 { dst := some 45, op := .move (.tmp 0), type := 23, pos := "slices.go:276", after := #[], guard := none } (.slice (some ⟨g, 0, none⟩) n cap) (Or.inl ⟨by rfl, by intro w hSw; clear hSw; go_simp⟩) hS0 ?_
  try simp only [Act.put, zq1, zq2, zq3]
  refine ztk 1 { dst := some 46, op := .move (.tmp 1), type := 3, pos := "slices.go:276", after := #[], guard := none } (.int .i64 i) (Or.inl ⟨by rfl, by intro w hSw; clear hSw; go_simp⟩) hS0 ?_
  try simp only [Act.put, zq1, zq2, zq3]
  refine ztk 2 { dst := some 47, op := .slice 23 (.tmp 45) none (some (.tmp 46)) none, type := 23, pos := "slices.go:276", after := #[{ on := 0, ground := .data }, { on := 1, ground := .data }], guard := none } (.slice (some ⟨g, 0, none⟩) i cap) (Or.inl ⟨by rfl, by intro w hSw; clear hSw; go_simp⟩) hS0 ?_
  try simp only [Act.put, zq1, zq2, zq3]
  refine ztk 3 { dst := some 48, op := .call { callee := .builtin .len, args := #[.tmp 47], argTypes := #[23] }, type := 3, pos := "slices.go:276", after := #[{ on := 2, ground := .data }], guard := none } (.int .i64 i) (Or.inl ⟨by rfl, by intro w hSw; clear hSw; go_simp⟩) hS0 ?_
  try simp only [Act.put, zq1, zq2, zq3]
  refine ztk 4 { dst := some 49, op := .move (.tmp 3), type := 23, pos := "slices.go:276", after := #[], guard := none } (.slice (some ⟨xb, 0, none⟩) 1 1) (Or.inl ⟨by rfl, by intro w hSw; clear hSw; go_simp⟩) hS0 ?_
  try simp only [Act.put, zq1, zq2, zq3]
  refine ztk 5 { dst := some 50, op := .call { callee := .builtin .len, args := #[.tmp 49], argTypes := #[23] }, type := 3, pos := "slices.go:276", after := #[{ on := 4, ground := .data }], guard := none } (.int .i64 1) (Or.inl ⟨by rfl, by intro w hSw; clear hSw; go_simp⟩) hS0 ?_
  try simp only [Act.put, zq1, zq2, zq3]
  refine ztk 6 { dst := some 51, op := .binOp .add 3 (.tmp 48) (.tmp 50) 3, type := 3, pos := "slices.go:276", after := #[{ on := 3, ground := .data }, { on := 5, ground := .data }], guard := none } (.int .i64 ((i : Int) + 1)) (Or.inl ⟨by rfl, by intro w hSw; clear hSw; go_simp⟩) hS0 ?_
  try simp only [Act.put, zq1, zq2, zq3]
  refine ztk 7 { dst := some 52, op := .move (.tmp 0), type := 23, pos := "slices.go:276", after := #[], guard := none } (.slice (some ⟨g, 0, none⟩) n cap) (Or.inl ⟨by rfl, by intro w hSw; clear hSw; go_simp⟩) hS0 ?_
  try simp only [Act.put, zq1, zq2, zq3]
  refine ztk 8 { dst := some 53, op := .move (.tmp 2), type := 3, pos := "slices.go:276", after := #[], guard := none } (.int .i64 ((i : Int) + 1)) (Or.inl ⟨by rfl, by intro w hSw; clear hSw; go_simp⟩) hS0 ?_
  try simp only [Act.put, zq1, zq2, zq3]
  refine ztk 9 { dst := some 54, op := .slice 23 (.tmp 52) (some (.tmp 53)) none none, type := 23, pos := "slices.go:276", after := #[{ on := 7, ground := .data }, { on := 8, ground := .data }], guard := none } (.slice (some ⟨g, (i + 1) * 6, none⟩) k (cap - (i + 1))) (Or.inl ⟨by rfl, by intro w hSw; clear hSw; go_simp⟩) hS0 ?_
  try simp only [Act.put, zq1, zq2, zq3]
  refine ztk 10 { dst := some 55, op := .call { callee := .builtin .len, args := #[.tmp 54], argTypes := #[23] }, type := 3, pos := "slices.go:276", after := #[{ on := 9, ground := .data }], guard := none } (.int .i64 k) (Or.inl ⟨by rfl, by intro w hSw; clear hSw; go_simp⟩) hS0 ?_
  try simp only [Act.put, zq1, zq2, zq3]
  refine ztk 11 { dst := some 56, op := .binOp .add 3 (.tmp 51) (.tmp 55) 3, type := 3, pos := "slices.go:276", after := #[{ on := 6, ground := .data }, { on := 10, ground := .data }], guard := none } (.int .i64 n) (Or.inl ⟨by rfl, by intro w hSw; clear hSw; go_simp⟩) hS0 ?_
  try simp only [Act.put, zq1, zq2, zq3]
  refine ztk 12 { dst := some 10, op := .assign (.tmp 56), type := 3, pos := "slices.go:276", after := #[{ on := 11, ground := .data }, { on := 0, ground := .phase }, { on := 1, ground := .phase }, { on := 2, ground := .phase }, { on := 3, ground := .phase }, { on := 4, ground := .phase }, { on := 5, ground := .phase }, { on := 6, ground := .phase }, { on := 7, ground := .phase }, { on := 8, ground := .phase }, { on := 9, ground := .phase }, { on := 10, ground := .phase }, { on := 11, ground := .phase }], guard := none } (.int .i64 n) (Or.inl ⟨by rfl, by intro w hSw; clear hSw; go_simp⟩) hS0 ?_
  try simp only [Act.put, zq1, zq2, zq3]
  refine wpAnyH_done (by kernel_rfl) ?_ _
  have HE0 := Lib.hid hS0
  clear hw1 hw2
  go_upto_region 18 with ((with_reducible refine wpList_copy_run rfl _ _ 23 23 rfl _ _ rfl rfl (HCP1.out w6 HE0.out _) ?_))
  have HB1 := Lib.hid (blk_setRow (HB.out.bel HE0.out) Y1.toArray)
  have HK1 := Lib.hid ((Kep.of_bel (S := fun b => b = g) HE0.out).trans (kep_setRow w6 g Y1.toArray))
  obtain ⟨W1, hW1⟩ : ∃ W1, w6.setRow g Y1.toArray = W1 := ⟨_, rfl⟩
  rw [hW1] at HB1 HK1 ⊢
  clear hW1
  have hw1 : IntKind.i64.wrap ((i : Int) + 1) = (i : Int) + 1 := IntWalk.i64_in _ ⟨by omega, by omega⟩
  refine wp_region_held_drew (S := fun Vx => Kep (fun b => b = g) W1 Vx) (by kernel_rfl) (Kep.drew (Kep.refl _ _)) (fun hS0 => ?_)
  have HW6 := Lib.hid (show Bel W1 W1.drew from (Bel.refl _).drew)
  obtain ⟨w7, hw7⟩ : ∃ w7, World.drew W1 = w7 := ⟨_, rfl⟩
  rw [hw7] at hS0 HW6 ⊢
  clear hw7
  refine ztk 0 { dst := some 98, op := .move (.tmp 12), type := 23, pos := "slices.go:290", after := #[], guard := none } (.slice (some ⟨g, 0, none⟩) n cap) (Or.inl ⟨by rfl, by intro w hSw; clear hSw; go_simp⟩) hS0 ?_
  try simp only [Act.put, zq1, zq2, zq3]
  refine ztk 1 { dst := some 99, op := .move (.tmp 1), type := 3, pos := "slices.go:290", after := #[], guard := none } (.int .i64 i) (Or.inl ⟨by rfl, by intro w hSw; clear hSw; go_simp⟩) hS0 ?_
  try simp only [Act.put, zq1, zq2, zq3]
  refine ztk 2 { dst := some 100, op := .move (.tmp 3), type := 23, pos := "slices.go:290", after := #[], guard := none } (.slice (some ⟨xb, 0, none⟩) 1 1) (Or.inl ⟨by rfl, by intro w hSw; clear hSw; go_simp⟩) hS0 ?_
  try simp only [Act.put, zq1, zq2, zq3]
  refine ztk 3 { dst := some 101, op := .call { callee := .builtin .len, args := #[.tmp 100], argTypes := #[23] }, type := 3, pos := "slices.go:290", after := #[{ on := 2, ground := .data }], guard := none } (.int .i64 1) (Or.inl ⟨by rfl, by intro w hSw; clear hSw; go_simp⟩) hS0 ?_
  try simp only [Act.put, zq1, zq2, zq3]
  refine ztk 4 { dst := some 102, op := .binOp .add 3 (.tmp 99) (.tmp 101) 3, type := 3, pos := "slices.go:290", after := #[{ on := 1, ground := .data }, { on := 3, ground := .data }], guard := none } (.int .i64 ((i : Int) + 1)) (Or.inl ⟨by rfl, by intro w hSw; clear hSw; go_simp⟩) hS0 ?_
  try simp only [Act.put, zq1, zq2, zq3]
  refine ztk 5 { dst := some 103, op := .slice 23 (.tmp 98) (some (.tmp 102)) none none, type := 23, pos := "slices.go:290", after := #[{ on := 0, ground := .data }, { on := 4, ground := .data }], guard := none } (.slice (some ⟨g, (i + 1) * 6, none⟩) k (cap - (i + 1))) (Or.inl ⟨by rfl, by intro w hSw; clear hSw; go_simp⟩) hS0 ?_
  try simp only [Act.put, zq1, zq2, zq3]
  refine ztk 6 { dst := some 104, op := .move (.tmp 0), type := 23, pos := "slices.go:290", after := #[], guard := none } (.slice (some ⟨g, 0, none⟩) n cap) (Or.inl ⟨by rfl, by intro w hSw; clear hSw; go_simp⟩) hS0 ?_
  try simp only [Act.put, zq1, zq2, zq3]
  refine ztk 7 { dst := some 105, op := .move (.tmp 2), type := 3, pos := "slices.go:290", after := #[], guard := none } (.int .i64 ((i : Int) + 1)) (Or.inl ⟨by rfl, by intro w hSw; clear hSw; go_simp⟩) hS0 ?_
  try simp only [Act.put, zq1, zq2, zq3]
  refine ztk 8 { dst := some 106, op := .slice 23 (.tmp 104) (some (.tmp 105)) none none, type := 23, pos := "slices.go:290", after := #[{ on := 6, ground := .data }, { on := 7, ground := .data }], guard := none } (.slice (some ⟨g, (i + 1) * 6, none⟩) k (cap - (i + 1))) (Or.inl ⟨by rfl, by intro w hSw; clear hSw; go_simp⟩) hS0 ?_
  try simp only [Act.put, zq1, zq2, zq3]
  refine wpAnyH_ready (rs := [9]) (by kernel_rfl) (by simp) ?_
  refine AllReadyH.cons (o := { dst := some 107, op := .call { callee := .builtin .copy, args := #[.tmp 103, .tmp 106], argTypes := #[23, 23] }, type := 3, pos := "slices.go:290", after := #[{ on := 5, ground := .data }, { on := 8, ground := .data }], guard := none }) rfl (fun K hK => ?_) AllReadyH.nil
  refine step_copy_run rfl (.tmp 103) (.tmp 106) 23 23 rfl _ _ (by simp [Act.eval, Act.put]) (by simp [Act.eval, Act.put]) (HCP2.out w7 (HB1.out.bel HW6.out) _) ?_
  refine hK.out _ _ (hS0.trans (kep_setRow _ _ _)) (fun hS1 => ?_)
  clear hK K
  try simp only [Act.put, zq1, zq2, zq3]
  refine wpAnyH_done (by kernel_rfl) ?_ _
  have HE := Lib.hid hS1
  have HB2 := Lib.hid (blk_setRow (HB1.out.bel HW6.out) Y1.toArray)
  obtain ⟨W2, hW2⟩ : ∃ W2, w7.setRow g Y1.toArray = W2 := ⟨_, rfl⟩
  rw [hW2] at HE HB2 ⊢
  clear hW2 hS0 hw1
  go_wp2_with ((with_reducible refine wpList_clear_run rfl _ 23 rfl _ rfl (HCL.out W2 _) ?_))
  go_ret
  exact ⟨rfl, rb_mk c6P (w := W2) (by rw [HSX.out, ← HY1.out]; exact HB2.out) (by rw [HLL.out]; exact HSP.out) (by rw [HLL.out]; omega), HK1.out.trans HE.out⟩

set_option maxRecDepth 100000 in
set_option maxHeartbeats 4000000 in
/-- Nothing is replaced: it comes in. -/
theorem replace_insP (A : Option Addr) (n c i xb : Nat) (w : World) (R : Value → World → Prop) (hi : i ≤ n) (hc : n ≤ c) (h : Calls Tryz.prog 237 #[.slice A n c, .int .i64 i, .slice (some ⟨xb, 0, none⟩) 1 1] w fun e w' => ∃ v', e = .returned v' ∧ R v' w') :
    Calls Tryz.prog 224 #[.slice A n c, .int .i64 i, .int .i64 i, .slice (some ⟨xb, 0, none⟩) 1 1] w fun e w' => ∃ v', e = .returned v' ∧ R v' w' := by
  have H := Lib.hid h
  obtain ⟨D, hsl⟩ : ∃ D, ∀ W, (Instr.slice 23 (.slice A n c) (some (.int .i64 i)) (some (.int .i64 i)) none).run Tryz.prog W = .ok (.slice D (i - i) (c - i)) W := by
    have e : Tryz.prog.elem 23 = 93 := by kernel_rfl
    refine ⟨(if c = i then A else A.map (·.add (i * 6))), fun W => ?_⟩
    rw [run_slice_lh (P := Tryz.prog) (w := W) (t := 23) (a := A) (len := n) (cap := c) (by rw [e]; exact Tryz.underlying23) .i64 .i64 i i (by omega) (by omega) (by omega), e]
    simp [Tryz.sizeOf93, Result.andThen, sliced]
  clear h
  go_enter Tryz.func224, Tryz.ntmps224
  go_wp2_with fail
  refine H.out.mono ?_
  rintro e w1 ⟨v', rfl, hR⟩
  have HR := Lib.hid hR
  clear hR
  go_wp2_with fail
  go_ret
  exact ⟨_, rfl, HR.out⟩
set_option maxRecDepth 100000 in
set_option maxHeartbeats 4000000 in
/-- A list with a row in its place, or with nothing there. -/
theorem putP (v : Value) (base : Nat) (l : List R6) (x1 x2 x3 x4 x5 x6 : Int) (s : Bool) (w : World) (h : OwnR cP 93 w base v l) (hs : Srt ordP l) (hn : l.length ≤ 1000000) (hst : s = false → inB ordP l (x1, x2, x3, x4, x5, x6) = true) (hb : base ≤ w.heap.size) :
    Calls Tryz.prog 208 #[v, .agg #[.int .i64 x1, .int .i64 x2, .int .i64 x3, .int .i64 x4, .int .i64 x5, .int .u64 x6], .func (.func 134) #[] #[], .bool s] w fun e w' => ∃ v', e = .returned v' ∧ OwnR cP 93 w' base v' (put ordP l (x1, x2, x3, x4, x5, x6) s) ∧ Kep (fun b => v.ownBlock = some b) w w' := by
  obtain ⟨A, c, rfl, hrs, hcm, _⟩ := h.rs c6P
  obtain ⟨n, hnl⟩ : ∃ n, l.length = n := ⟨_, rfl⟩
  have HO := Lib.hid h
  have HNL := Lib.hid hnl
  rw [hnl] at hrs hn ⊢
  have hpl := pos_le ordP l (x1, x2, x3, x4, x5, x6)
  rw [hnl] at hpl
  have HPA := Lib.hid (put_at ordP l (x1, x2, x3, x4, x5, x6) s)
  have HIT := Lib.hid (show inB ordP l (x1, x2, x3, x4, x5, x6) = true → pos ordP l (x1, x2, x3, x4, x5, x6) < n from fun hi => by
    rcases Nat.lt_or_ge (pos ordP l (x1, x2, x3, x4, x5, x6)) n with hh | hh
    · exact hh
    · rw [inB_no ordP l _ (List.getElem?_eq_none (by rw [hnl]; exact hh))] at hi; cases hi)
  obtain ⟨R, hR⟩ : ∃ R, put ordP l (x1, x2, x3, x4, x5, x6) s = R := ⟨_, rfl⟩
  rw [hR] at HPA ⊢
  have FD := Lib.hid (fun V (hv : Bel w V) => findP A n c l x1 x2 x3 x4 x5 x6 V (hrs.bel hv) (by omega) hs)
  have HST := Lib.hid hst
  obtain ⟨I, hI⟩ : ∃ I, inB ordP l (x1, x2, x3, x4, x5, x6) = I := ⟨_, rfl⟩
  obtain ⟨i, hi⟩ : ∃ i, pos ordP l (x1, x2, x3, x4, x5, x6) = i := ⟨_, rfl⟩
  rw [hI, hi] at FD HPA
  rw [hI] at HST HIT
  rw [hi] at HIT hpl
  obtain ⟨W, hW⟩ : ∃ W, w.alloc (.cells #[.int .i64 x1, .int .i64 x2, .int .i64 x3, .int .i64 x4, .int .i64 x5, .int .u64 x6] 93) = W := ⟨_, rfl⟩
  have P0 := boxP x1 x2 x3 x4 x5 x6 w
  have B0 : Bel w W := by rw [← hW]; exact (Bel.refl _).alloc _
  rw [hW] at P0
  have HB := Lib.hid B0
  have HCAP := Lib.hid hrs.cap
  clear hR hI hi h hs hst hrs hnl B0
  go_enter Tryz.func208, Tryz.ntmps208
  go_upto_region 1 with fail
  obtain ⟨g, hg⟩ : ∃ g, w.heap.size = g := ⟨_, rfl⟩
  rw [hg]
  rw [hg] at P0
  have Q0 := Lib.hid P0
  have HG := Lib.hid hg
  clear P0 hW hg
  obtain ⟨c0, c1, c2, c3, c4, c5⟩ := rng6 (rngB (C := [.int .i64 x1, .int .i64 x2, .int .i64 x3, .int .i64 x4, .int .i64 x5, .int .u64 x6]) Q0.out)
  rw [Nat.zero_add] at c1 c2 c3 c4 c5
  go_wp2_with fail
  refine (FD.out _ HB.out).mono ?_
  rintro e V ⟨rfl, kb⟩
  have BV := Lib.hid (HB.out.trans kb)
  have QV := Lib.hid (Q0.out.bel kb)
  have OV := Lib.hid (HO.out.bel BV.out)
  clear kb c0 c1 c2 c3 c4 c5 FD HO Q0
  have hbV : base ≤ V.heap.size := Nat.le_trans hb (Below.size BV.out)
  obtain ⟨c0, c1, c2, c3, c4, c5⟩ := rng6 (rngB (C := [.int .i64 x1, .int .i64 x2, .int .i64 x3, .int .i64 x4, .int .i64 x5, .int .u64 x6]) QV.out)
  rw [Nat.zero_add] at c1 c2 c3 c4 c5
  have hXR := fun V2 (hv : Bel V V2) => Blk.new V2 #[.int .i64 x1, .int .i64 x2, .int .i64 x3, .int .i64 x4, .int .i64 x5, .int .u64 x6] 93
  cases s
  · obtain rfl : I = true := HST.out rfl
    have hin : i < n := HIT.out rfl
    obtain ⟨gl, cap, e3, hgl, hrb, hcap⟩ := rb_own c6P OV.out (by rw [HNL.out]; omega)
    injection e3 with e1 e2 e3
    subst e1 e3
    have DL := Lib.hid (deleteP gl c i l V hrb (by rw [HNL.out]; exact hin) (by rw [HNL.out]; omega) hcap)
    rw [HNL.out] at DL
    have HL2 := Lib.hid (show (l.take i ++ l.drop (i + 1)).length = n - 1 by rw [List.length_append, List.length_take, List.length_drop, HNL.out]; omega)
    have hp : R = l.take i ++ l.drop (i + 1) := by rw [HPA.out]; simp
    have HP := Lib.hid hp
    clear hrb hXR hp
    go_wp2_with fail
    refine DL.out.mono ?_
    rintro e V2 ⟨rfl, hr2, hk2⟩
    have HR2 := Lib.hid hr2
    have HK2 := Lib.hid hk2
    clear hr2 hk2 c0 c1 c2 c3 c4 c5
    go_wp2_with fail
    go_ret
    refine ⟨_, rfl, ?_, ?_⟩
    · rw [HP.out, ← HL2.out]
      exact own_rb HR2.out (Nat.le_trans hgl (Nat.le_refl _)) hcap
    · exact ((Kep.of_bel BV.out).trans HK2.out).mono (fun k _ e => by rw [e]; rfl)
  · cases I
    · -- it comes in
      have hp : R = l.take i ++ (x1, x2, x3, x4, x5, x6) :: l.drop i := by rw [HPA.out]; simp
      have HP := Lib.hid hp
      clear hp
      have IN := Lib.hid (show ∀ V2 xb, Bel V V2 → Blk V2 xb #[.int .i64 x1, .int .i64 x2, .int .i64 x3, .int .i64 x4, .int .i64 x5, .int .u64 x6] 93 → V.heap.size ≤ xb → Calls Tryz.prog 237 #[.slice A n c, .int .i64 i, .slice (some ⟨xb, 0, none⟩) 1 1] V2 fun e w' => ∃ v', e = .returned v' ∧ OwnR cP 93 w' base v' R ∧ Kep (fun b => (Value.slice A n c).ownBlock = some b) V2 w' from fun V2 xb hv hx hxb => by
        have hx : Blk V2 xb (cP (x1, x2, x3, x4, x5, x6)).toArray 93 := hx
        have hO2 := OV.out.bel hv
        rw [HP.out]
        by_cases hend : i = n
        · subst hend
          have := insert_endP (.slice A i c) l (x1, x2, x3, x4, x5, x6) base xb V2 (by rw [HNL.out] at hO2; exact hO2) (by rw [HNL.out]; omega) hx (Nat.le_trans hbV (Below.size hv))
          rw [HNL.out] at this
          refine this.mono ?_
          rintro e w' ⟨v', h1, h2, h3⟩
          refine ⟨v', h1, ?_, h3⟩
          rw [List.take_of_length_le (by rw [HNL.out]; exact Nat.le_refl _), List.drop_eq_nil_of_le (by rw [HNL.out]; exact Nat.le_refl _)]
          exact h2
        · obtain ⟨gl, cap, e3, hgl, hrb, hcap⟩ := rb_own c6P hO2 (by rw [HNL.out]; omega)
          rw [HNL.out] at e3
          injection e3 with e1 e2 e3
          subst e1 e3
          have hne : xb ≠ gl := by
            have h1 := (OV.out.lt gl rfl).2
            omega
          by_cases hroom : n < c
          · have := insert_roomP gl c i l (x1, x2, x3, x4, x5, x6) xb V2 hrb (by rw [HNL.out]; omega) (by rw [HNL.out]; omega) hcap (by rw [HNL.out]; exact hroom) hx hne
            rw [HNL.out] at this
            refine this.mono ?_
            rintro e w' ⟨h1, h2, h3⟩
            have hl : (l.take i ++ (x1, x2, x3, x4, x5, x6) :: l.drop i).length = n + 1 := by simp [HNL.out]; omega
            exact ⟨_, h1, by rw [← hl]; exact own_rb h2 hgl hcap, h3.mono (fun k _ e => by rw [e]; rfl)⟩
          · have := insert_growP gl c i l (x1, x2, x3, x4, x5, x6) xb V2 hrb (by rw [HNL.out]; omega) (by rw [HNL.out]; omega) hcap (by rw [HNL.out]; exact hroom) hx
            rw [HNL.out] at this
            refine this.mono ?_
            rintro e w' ⟨g2, c2, h1, h2, h3, h4, h5⟩
            have hl : (l.take i ++ (x1, x2, x3, x4, x5, x6) :: l.drop i).length = n + 1 := by simp [HNL.out]; omega
            exact ⟨_, h1, by rw [← hl]; exact own_rb h2 (Nat.le_trans hbV (Nat.le_trans (Below.size hv) h4)) h5, Kep.of_bel h3⟩)
      have RI := Lib.hid (fun V2 xb hv hx hxb => replace_insP A n c i xb V2 (fun v' w' => OwnR cP 93 w' base v' R ∧ Kep (fun b => (Value.slice A n c).ownBlock = some b) V2 w') hpl HCAP.out (IN.out V2 xb hv hx hxb))
      have HXB := Lib.hid (Blk.new V #[.int .i64 x1, .int .i64 x2, .int .i64 x3, .int .i64 x4, .int .i64 x5, .int .u64 x6] 93)
      obtain ⟨V3, hV3⟩ : ∃ V3, V.alloc (.cells #[.int .i64 x1, .int .i64 x2, .int .i64 x3, .int .i64 x4, .int .i64 x5, .int .u64 x6] 93) = V3 := ⟨_, rfl⟩
      have BV3 := Lib.hid (show Bel V V3 by rw [← hV3]; exact (Bel.refl _).alloc _)
      rw [hV3] at HXB
      clear hXR IN
      go_wp2_with fail
      refine (RI.out _ _ BV3.out HXB.out (Nat.le_refl _)).mono ?_
      rintro e V4 ⟨v', rfl, hR, hk⟩
      have HR := Lib.hid hR
      have HK := Lib.hid hk
      clear hR hk c0 c1 c2 c3 c4 c5 hV3
      go_wp2_with fail
      go_ret
      exact ⟨_, rfl, HR.out, (Kep.of_bel (BV.out.trans BV3.out)).trans HK.out⟩
    · -- it takes another one's place
      have hin : i < n := HIT.out rfl
      have hp : R = l.take i ++ (x1, x2, x3, x4, x5, x6) :: l.drop (i + 1) := by rw [HPA.out]; simp
      have HP := Lib.hid hp
      clear hp
      obtain ⟨gl, cap, e3, hgl, hrb, hcap⟩ := rb_own c6P OV.out (by rw [HNL.out]; omega)
      rw [HNL.out] at e3
      injection e3 with e1 e2 e3
      subst e1 e3
      have RI := Lib.hid (show ∀ V2 xb, Bel V V2 → Blk V2 xb #[.int .i64 x1, .int .i64 x2, .int .i64 x3, .int .i64 x4, .int .i64 x5, .int .u64 x6] 93 → Calls Tryz.prog 224 #[.slice (some ⟨gl, 0, none⟩) n c, .int .i64 i, .int .i64 ((i : Int) + 1), .slice (some ⟨xb, 0, none⟩) 1 1] V2 fun e w' => ∃ v', e = .returned v' ∧ OwnR cP 93 w' base v' R ∧ Kep (fun b => b = gl) V2 w' from fun V2 xb hv hx => by
        have hx : Blk V2 xb (cP (x1, x2, x3, x4, x5, x6)).toArray 93 := hx
        rw [HP.out]
        by_cases hend : i + 1 = n
        · have := replace_lastP gl c i base xb l (x1, x2, x3, x4, x5, x6) V2 (hrb.bel hv) (by rw [HNL.out]; exact hend) (by rw [HNL.out]; omega) hcap hx (Nat.le_trans hbV (Below.size hv)) hgl
          rwa [HNL.out] at this
        · have := replace_midP gl c i xb l (x1, x2, x3, x4, x5, x6) V2 (hrb.bel hv) (by rw [HNL.out]; omega) (by rw [HNL.out]; omega) hcap hx
          rw [HNL.out] at this
          refine this.mono ?_
          rintro e w' ⟨h1, h2, h3⟩
          have hl : (l.take i ++ (x1, x2, x3, x4, x5, x6) :: l.drop (i + 1)).length = n := by simp [HNL.out]; omega
          exact ⟨_, h1, by rw [← hl]; exact own_rb h2 hgl hcap, h3⟩)
      have HXB := Lib.hid (Blk.new V #[.int .i64 x1, .int .i64 x2, .int .i64 x3, .int .i64 x4, .int .i64 x5, .int .u64 x6] 93)
      obtain ⟨V3, hV3⟩ : ∃ V3, V.alloc (.cells #[.int .i64 x1, .int .i64 x2, .int .i64 x3, .int .i64 x4, .int .i64 x5, .int .u64 x6] 93) = V3 := ⟨_, rfl⟩
      have BV3 := Lib.hid (show Bel V V3 by rw [← hV3]; exact (Bel.refl _).alloc _)
      rw [hV3] at HXB
      clear hXR hrb
      go_wp2_with fail
      refine (RI.out _ _ BV3.out HXB.out).mono ?_
      rintro e V4 ⟨v', rfl, hR, hk⟩
      have HR := Lib.hid hR
      have HK := Lib.hid hk
      clear hR hk c0 c1 c2 c3 c4 c5 hV3
      go_wp2_with fail
      go_ret
      exact ⟨_, rfl, HR.out, ((Kep.of_bel (BV.out.trans BV3.out)).trans HK.out).mono (fun k _ e => by rw [e]; rfl)⟩
end Ho
end Go.Proofs.YtneajcoiemkfbaaGreat
end
