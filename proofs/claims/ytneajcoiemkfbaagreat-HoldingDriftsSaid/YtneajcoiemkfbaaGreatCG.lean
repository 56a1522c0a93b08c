/-
  Texts of this claim, put together: Ho8, Ho9. What each one says, and under which conditions, stands ahead of it.
-/
import Derived.Laws.AppendOwnNone
import Derived.Laws.AppendOwn
import Derived.Test.YtneajcoiemkfbaaGreatCF

section
/-
  What slices.Clone and holding.those answer, of classes and of positions; appends of rows. Conditions: at most a billion rows; the function value tells what q tells.
-/
namespace Go.Proofs.YtneajcoiemkfbaaGreat
open Go.RowKit Go.Shelf
set_option linter.unusedVariables false
namespace Ho
open Kk Pm

theorem flat_inv {k : R6 → List Value} (K : C6 k) : ∀ (l : List R6) (j : Nat) (u : Value), (flat k l)[j]? = some u → ∃ i t r, j = i * 6 + t ∧ l[i]? = some r ∧ (k r)[t]? = some u
  | [], j, u, h => by simp [flat] at h
  | y :: l, j, u, h => by
    replace h : (k y ++ flat k l)[j]? = some u := h
    rcases Nat.lt_or_ge j 6 with hj | hj
    · rw [List.getElem?_append_left (by rw [K.len]; exact hj)] at h
      exact ⟨0, j, y, by omega, rfl, h⟩
    · rw [List.getElem?_append_right (by rw [K.len]; exact hj), K.len] at h
      obtain ⟨i, t, r, h1, h2, h3⟩ := flat_inv K l (j - 6) u h
      exact ⟨i + 1, t, r, by omega, by simpa using h2, h3⟩
theorem add_at (b o j : Nat) : (⟨b, o, none⟩ : Addr).add j = ⟨b, o + j, none⟩ := by
  unfold Addr.add
  by_cases h : j = 0
  · simp [h]
  · simp [h]
theorem rs_news {k : R6 → List Value} (K : C6 k) {w : World} {A : Addr} {n c : Nat} {l : List R6} (h : RS k w (some A) n c l) : ∀ j u, (flat k l)[j]? = some u → w.cell? (A.add j) = some u := fun j u hj => by
  obtain ⟨i, t, r, rfl, hi, ht⟩ := flat_inv K l j u hj
  have hn : i < n := by have := (List.getElem?_eq_some_iff.1 hi).1; have := h.len; omega
  obtain ⟨b, o, e, _, hc⟩ := h.at hn hi
  injection e with e
  subst e
  rw [add_at, ← Nat.add_assoc]
  exact hc t u ht
/-- A row of one's own. -/
def OwnR (k : R6 → List Value) (t : TypeId) (w : World) (base : Nat) (v : Value) (l : List R6) : Prop := w.ownsRow base t 6 v l.length (flat k l)
theorem OwnR.rs {k : R6 → List Value} (K : C6 k) {t : TypeId} {w : World} {base : Nat} {v : Value} {l : List R6} (h : OwnR k t w base v l) : ∃ A c, v = .slice A l.length c ∧ RS k w A l.length c l ∧ c ≤ maxLen ∧ ∀ x, A = some x → base ≤ x.block := rs_own K h
theorem OwnR.bel {k : R6 → List Value} {t : TypeId} {w w' : World} {base : Nat} {v : Value} {l : List R6} (h : OwnR k t w base v l) (hb : Bel w w') : OwnR k t w' base v l := Kk.owns_bel h hb
theorem OwnR.nil_ (k : R6 → List Value) (t : TypeId) (w : World) (base : Nat) : OwnR k t w base (.slice none 0 0) [] := World.ownsRow_nil w base t 6

theorem wpList_append_C {w : World} {ops : Array Oper} {rest : List Oper} {o : Oper} {a : Act} {Q : Exit → Act → World → Prop} (hgd : o.guard = none) (s x : Operand)
    (ho : o.op = .call { callee := .builtin .append, args := #[s, x], argTypes := #[22, 22] })
    (base : Nat) (v : Value) (l : List R6) (hs : a.eval s = v) (hown : OwnR cC 90 w base v l) (A : Option Addr) (m c : Nat) (l2 : List R6) (hx : a.eval x = .slice A m c) (hi : RS cC w A m c l2)
    (hm : l.length + m ≤ 2000000000) (hb : base ≤ w.heap.size)
    (h : ∀ v' w', OwnR cC 90 w' base v' (l ++ l2) → w.grownBy w' v.ownBlock → wpList Tryz.prog ops Q rest (a.put o.dst v') w') : wpList Tryz.prog ops Q (o :: rest) a w := by
  obtain ⟨i0, h1, hz0, hz1, hz2⟩ := info_parts zero_c
  cases A with
  | none =>
    obtain rfl : c = 0 := hi.nil rfl
    obtain rfl : m = 0 := by have := hi.cap; omega
    have hz : l2 = [] := List.length_eq_zero_iff.1 hi.len
    subst hz
    refine wpList_append_own_none hgd s x 22 ho base 90 i0 6 Tryz.underlying22 h1 v l.length (flat cC l) hs hown hx ?_
    exact h v w (by simpa using hown) ⟨rfl, rfl, rfl, Nat.le_refl _, fun _ _ _ => rfl⟩
  | some ad =>
    refine wpList_append_own w hgd s x 22 ho base 90 i0 (.agg (cC (0, 0, 0, 0, 0, 0)).toArray) 6 48 Tryz.underlying22 h1 hz0 hz1 hz2 rfl (by decide) v l.length (flat cC l) hs hown ad m c (flat cC l2) hx (by rw [flat_len c6C, hi.len]) (rs_news c6C hi) (flat_one c6C l2) (by unfold maxLen; omega) (by omega) hb ?_
    intro v' w' h2 h3 _
    refine h v' w' ?_ h3
    unfold OwnR
    rw [flat_app, List.length_append, hi.len]
    exact h2
theorem own_emptyC (w : World) : OwnR cC 90 (w.alloc (.cells #[] 90)) w.heap.size (.slice (some ⟨w.heap.size, 0, none⟩) 0 0) [] :=
  World.ownsRow_made w #[] 0 (Nat.le_refl _) (Nat.zero_le _) rfl
set_option maxHeartbeats 1000000 in
theorem cloneC (A : Option Addr) (n c : Nat) (l : List R6) (w : World) (hi : RS cC w A n c l) (hn : n ≤ 1000000000) :
    Calls Tryz.prog 135 #[.slice A n c] w fun e w' => ∃ v, e = .returned v ∧ OwnR cC 90 w' w.heap.size v l ∧ Bel w w' := by
  have qT : ∀ (w : World) (a : Option Addr) (n c n' c' : Nat), (binOp .eql 22 (.slice a n c) (.slice none n' c')).run Tryz.prog w = .ok (.bool a.isNone) w := fun w a n c n' c' => Lib.run_eql_slice_nil w _ _ a n c n' c' Tryz.underlying22
  cases A with
  | none =>
    obtain rfl : c = 0 := hi.nil rfl
    obtain rfl : n = 0 := by have := hi.cap; omega
    have hz : l = [] := List.length_eq_zero_iff.1 hi.len
    subst hz
    clear hi
    go_enter Tryz.func135, Tryz.ntmps135
    go_wp2
    go_ret
    exact ⟨_, rfl, OwnR.nil_ _ _ _ _, Bel.refl _⟩
  | some ad =>
    have HS := Lib.hid (hi.bel ((Bel.refl w).alloc (.cells #[] 90)))
    have HE := Lib.hid (own_emptyC w)
    clear hi
    go_enter Tryz.func135, Tryz.ntmps135
    go_wp2_with (at_builtin; refine wpList_append_C rfl _ _ rfl w.heap.size _ [] rfl HE.out (some ad) n c l rfl HS.out (by simp; omega) (by simp) ?_; intro v' w1 hown' hgrow)
    have HO := Lib.hid hown'
    have hb : Bel w w1 := Kk.Bel.grown ((Bel.refl w).alloc _) hgrow (fun k hk => (HE.out.lt k hk).1)
    clear hown' hgrow
    go_wp2
    go_ret
    exact ⟨_, rfl, HO.out, hb⟩

set_option maxRecDepth 10000 in
set_option maxHeartbeats 2000000 in
theorem thoseC (q : R6 → Bool) (F : Nat) (lb : Array Value) (A : Option Addr) (n c : Nat) (l : List R6) (w : World) (hi : RS cC w A n c l) (hn : n ≤ 1000000000) (eg : ∀ args w, (callFunc F args).run Tryz.prog w = .ok (.enter F args) w)
    (hF : ∀ r W, Bel w W → Calls Tryz.prog F (#[.agg (cC r).toArray] ++ lb) W fun e W' => e = .returned (.bool (q r)) ∧ Bel W W') :
    Calls Tryz.prog 81 #[.slice A n c, .func (.func F) #[] lb] w fun e w' => ∃ v, e = .returned v ∧ OwnR cC 90 w' w.heap.size v (l.filter q) ∧ Bel w w' := by
  have HR := Lib.hid hi
  have HF := Lib.hid hF
  clear hi hF
  go_enter Tryz.func81, Tryz.ntmps81
  go_wp2_with fail
  go_loopw [4, 9] (fun s4 s9 wr => ∃ k : Nat, k ≤ n ∧ s9 = .int .i64 k ∧ Hid (OwnR cC 90 wr w.heap.size s4 ((l.take k).filter q)) ∧ Hid (Bel w wr)) (fun _ s9 _ => n - (intOf s9).toNat)
  case atStart => exact ⟨0, Nat.zero_le _, rfl, Lib.hid (OwnR.nil_ _ _ _ _), Lib.hid (Bel.refl _)⟩
  case round =>
    obtain ⟨k, hk, rfl, ho, hh⟩ := hrel
    by_cases hlt : k < n
    · obtain ⟨⟨r1, r2, r3, r4, r5, r6⟩, hr⟩ := HR.out.get hlt
      obtain ⟨b, o, rfl, hb, hrow⟩ := (HR.out.bel hh.out).at hlt hr
      have HNX := Lib.hid (show (l.take (k + 1)).filter q = (l.take k).filter q ++ (if q (r1, r2, r3, r4, r5, r6) then [(r1, r2, r3, r4, r5, r6)] else []) by
        rw [List.take_add_one, hr, List.filter_append]
        congr 1
        show List.filter q [(r1, r2, r3, r4, r5, r6)] = _
        by_cases hq : q (r1, r2, r3, r4, r5, r6) = true <;> simp [hq])
      have HLE := Lib.hid (show ((l.take k).filter q).length ≤ k from Nat.le_trans (List.length_filter_le _ _) (by rw [List.length_take]; omega))
      have HC := Lib.hid (fun W hW => HF.out (r1, r2, r3, r4, r5, r6) W hW)
      have hlt3 : (k : Int) < n := by omega
      obtain ⟨c0, c1, c2, c3, c4, c5⟩ := rng6 (rowC hrow)
      obtain ⟨y, hy⟩ : ∃ y, q (r1, r2, r3, r4, r5, r6) = y := ⟨_, rfl⟩
      rw [hy] at HC HNX
      clear hr hrow hy
      obtain ⟨V, hV⟩ : ∃ V, wr.alloc (.cells #[.int .i64 r1, .int .i64 r2, .int .i64 r3, .int .i64 r4, .int .u64 r5, .int .u64 r6] 90) = V := ⟨_, rfl⟩
      have BV := Lib.hid (show Bel wr V by rw [← hV]; exact (Bel.refl _).alloc _)
      have P0 := Lib.hid (show Blk V wr.heap.size #[.int .i64 r1, .int .i64 r2, .int .i64 r3, .int .i64 r4, .int .u64 r5, .int .u64 r6] 90 by rw [← hV]; exact Blk.new _ _ _)
      obtain ⟨d0, d1, d2, d3, d4, d5⟩ := rng6 (rngB (C := [.int .i64 r1, .int .i64 r2, .int .i64 r3, .int .i64 r4, .int .u64 r5, .int .u64 r6]) P0.out)
      rw [Nat.zero_add] at d1 d2 d3 d4 d5
      go_wp2_with fail
      refine (HC.out _ (hh.out.trans BV.out)).mono ?_
      rintro e V2 ⟨rfl, kb⟩
      have B2 := Lib.hid (hh.out.trans (BV.out.trans kb))
      have P2 := Lib.hid (P0.out.bel kb)
      have HO := Lib.hid (ho.out.bel (BV.out.trans kb))
      clear kb c0 c1 c2 c3 c4 c5 d0 d1 d2 d3 d4 d5 hV HC hh ho
      obtain ⟨g, hg⟩ : ∃ g, wr.heap.size = g := ⟨_, rfl⟩
      rw [hg] at P2 ⊢
      clear hg P0
      cases y
      · go_wp2_with fail
        go_roundw
        case rel => exact ⟨k + 1, by omega, by go_num, Lib.hid (by rw [HNX.out]; simpa using HO.out), B2⟩
        case measure => simp [intOf]; omega
      · obtain ⟨d0, d1, d2, d3, d4, d5⟩ := rng6 (rngB (C := [.int .i64 r1, .int .i64 r2, .int .i64 r3, .int .i64 r4, .int .u64 r5, .int .u64 r6]) P2.out)
        rw [Nat.zero_add] at d1 d2 d3 d4 d5
        have HX := Lib.hid (show RS cC (V2.alloc (.cells #[.int .i64 r1, .int .i64 r2, .int .i64 r3, .int .i64 r4, .int .u64 r5, .int .u64 r6] 90)) (some ⟨V2.heap.size, 0, none⟩) 1 1 [(r1, r2, r3, r4, r5, r6)] from rs_blk c6C (Blk.new _ _ _) rfl (Nat.le_refl _) rfl)
        have HOA := Lib.hid (HO.out.bel ((Bel.refl V2).alloc (.cells #[.int .i64 r1, .int .i64 r2, .int .i64 r3, .int .i64 r4, .int .u64 r5, .int .u64 r6] 90)))
        have HSZ := Lib.hid (Below.size B2.out)
        go_wp2_with (at_builtin; refine wpList_append_C rfl _ _ rfl w.heap.size _ ((l.take k).filter q) rfl HOA.out (some ⟨V2.heap.size, 0, none⟩) 1 1 [(r1, r2, r3, r4, r5, r6)] rfl HX.out (by have := HLE.out; omega) (by have := HSZ.out; simp; omega) ?_; intro v' w1 hown' hgrow)
        have HO2 := Lib.hid hown'
        have hb : Bel w w1 := Kk.Bel.grown (B2.out.alloc _) hgrow (fun k hk => (HOA.out.lt k hk).1)
        have HB2 := Lib.hid hb
        clear hown' hgrow hb
        go_wp2_with fail
        go_roundw
        case rel => exact ⟨k + 1, by omega, by go_num, Lib.hid (by rw [HNX.out]; exact HO2.out), HB2⟩
        case measure => simp [intOf]; omega
    · obtain rfl : k = n := by omega
      have HL := Lib.hid (show l.take k = l from List.take_of_length_le (by rw [HR.out.len]; exact Nat.le_refl _))
      rw [HL.out] at ho
      go_wp2_with fail
      go_ret
      exact ⟨_, rfl, ho.out, hh.out⟩

theorem wpList_append_P {w : World} {ops : Array Oper} {rest : List Oper} {o : Oper} {a : Act} {Q : Exit → Act → World → Prop} (hgd : o.guard = none) (s x : Operand)
    (ho : o.op = .call { callee := .builtin .append, args := #[s, x], argTypes := #[23, 23] })
    (base : Nat) (v : Value) (l : List R6) (hs : a.eval s = v) (hown : OwnR cP 93 w base v l) (A : Option Addr) (m c : Nat) (l2 : List R6) (hx : a.eval x = .slice A m c) (hi : RS cP w A m c l2)
    (hm : l.length + m ≤ 2000000000) (hb : base ≤ w.heap.size)
    (h : ∀ v' w', OwnR cP 93 w' base v' (l ++ l2) → w.grownBy w' v.ownBlock → wpList Tryz.prog ops Q rest (a.put o.dst v') w') : wpList Tryz.prog ops Q (o :: rest) a w := by
  obtain ⟨i0, h1, hz0, hz1, hz2⟩ := info_parts zero_p
  cases A with
  | none =>
    obtain rfl : c = 0 := hi.nil rfl
    obtain rfl : m = 0 := by have := hi.cap; omega
    have hz : l2 = [] := List.length_eq_zero_iff.1 hi.len
    subst hz
    refine wpList_append_own_none hgd s x 23 ho base 93 i0 6 Tryz.underlying23 h1 v l.length (flat cP l) hs hown hx ?_
    exact h v w (by simpa using hown) ⟨rfl, rfl, rfl, Nat.le_refl _, fun _ _ _ => rfl⟩
  | some ad =>
    refine wpList_append_own w hgd s x 23 ho base 93 i0 (.agg (cP (0, 0, 0, 0, 0, 0)).toArray) 6 48 Tryz.underlying23 h1 hz0 hz1 hz2 rfl (by decide) v l.length (flat cP l) hs hown ad m c (flat cP l2) hx (by rw [flat_len c6P, hi.len]) (rs_news c6P hi) (flat_one c6P l2) (by unfold maxLen; omega) (by omega) hb ?_
    intro v' w' h2 h3 _
    refine h v' w' ?_ h3
    unfold OwnR
    rw [flat_app, List.length_append, hi.len]
    exact h2
theorem own_emptyP (w : World) : OwnR cP 93 (w.alloc (.cells #[] 93)) w.heap.size (.slice (some ⟨w.heap.size, 0, none⟩) 0 0) [] :=
  World.ownsRow_made w #[] 0 (Nat.le_refl _) (Nat.zero_le _) rfl
set_option maxHeartbeats 1000000 in
theorem cloneP (A : Option Addr) (n c : Nat) (l : List R6) (w : World) (hi : RS cP w A n c l) (hn : n ≤ 1000000000) :
    Calls Tryz.prog 172 #[.slice A n c] w fun e w' => ∃ v, e = .returned v ∧ OwnR cP 93 w' w.heap.size v l ∧ Bel w w' := by
  have qT : ∀ (w : World) (a : Option Addr) (n c n' c' : Nat), (binOp .eql 23 (.slice a n c) (.slice none n' c')).run Tryz.prog w = .ok (.bool a.isNone) w := fun w a n c n' c' => Lib.run_eql_slice_nil w _ _ a n c n' c' Tryz.underlying23
  cases A with
  | none =>
    obtain rfl : c = 0 := hi.nil rfl
    obtain rfl : n = 0 := by have := hi.cap; omega
    have hz : l = [] := List.length_eq_zero_iff.1 hi.len
    subst hz
    clear hi
    go_enter Tryz.func172, Tryz.ntmps172
    go_wp2
    go_ret
    exact ⟨_, rfl, OwnR.nil_ _ _ _ _, Bel.refl _⟩
  | some ad =>
    have HS := Lib.hid (hi.bel ((Bel.refl w).alloc (.cells #[] 93)))
    have HE := Lib.hid (own_emptyP w)
    clear hi
    go_enter Tryz.func172, Tryz.ntmps172
    go_wp2_with (at_builtin; refine wpList_append_P rfl _ _ rfl w.heap.size _ [] rfl HE.out (some ad) n c l rfl HS.out (by simp; omega) (by simp) ?_; intro v' w1 hown' hgrow)
    have HO := Lib.hid hown'
    have hb : Bel w w1 := Kk.Bel.grown ((Bel.refl w).alloc _) hgrow (fun k hk => (HE.out.lt k hk).1)
    clear hown' hgrow
    go_wp2
    go_ret
    exact ⟨_, rfl, HO.out, hb⟩

set_option maxRecDepth 10000 in
set_option maxHeartbeats 2000000 in
theorem thoseP (q : R6 → Bool) (F : Nat) (lb : Array Value) (A : Option Addr) (n c : Nat) (l : List R6) (w : World) (hi : RS cP w A n c l) (hn : n ≤ 1000000000) (eg : ∀ args w, (callFunc F args).run Tryz.prog w = .ok (.enter F args) w)
    (hF : ∀ r W, Bel w W → Calls Tryz.prog F (#[.agg (cP r).toArray] ++ lb) W fun e W' => e = .returned (.bool (q r)) ∧ Bel W W') :
    Calls Tryz.prog 84 #[.slice A n c, .func (.func F) #[] lb] w fun e w' => ∃ v, e = .returned v ∧ OwnR cP 93 w' w.heap.size v (l.filter q) ∧ Bel w w' := by
  have HR := Lib.hid hi
  have HF := Lib.hid hF
  clear hi hF
  go_enter Tryz.func84, Tryz.ntmps84
  go_wp2_with fail
  go_loopw [4, 9] (fun s4 s9 wr => ∃ k : Nat, k ≤ n ∧ s9 = .int .i64 k ∧ Hid (OwnR cP 93 wr w.heap.size s4 ((l.take k).filter q)) ∧ Hid (Bel w wr)) (fun _ s9 _ => n - (intOf s9).toNat)
  case atStart => exact ⟨0, Nat.zero_le _, rfl, Lib.hid (OwnR.nil_ _ _ _ _), Lib.hid (Bel.refl _)⟩
  case round =>
    obtain ⟨k, hk, rfl, ho, hh⟩ := hrel
    by_cases hlt : k < n
    · obtain ⟨⟨r1, r2, r3, r4, r5, r6⟩, hr⟩ := HR.out.get hlt
      obtain ⟨b, o, rfl, hb, hrow⟩ := (HR.out.bel hh.out).at hlt hr
      have HNX := Lib.hid (show (l.take (k + 1)).filter q = (l.take k).filter q ++ (if q (r1, r2, r3, r4, r5, r6) then [(r1, r2, r3, r4, r5, r6)] else []) by
        rw [List.take_add_one, hr, List.filter_append]
        congr 1
        show List.filter q [(r1, r2, r3, r4, r5, r6)] = _
        by_cases hq : q (r1, r2, r3, r4, r5, r6) = true <;> simp [hq])
      have HLE := Lib.hid (show ((l.take k).filter q).length ≤ k from Nat.le_trans (List.length_filter_le _ _) (by rw [List.length_take]; omega))
      have HC := Lib.hid (fun W hW => HF.out (r1, r2, r3, r4, r5, r6) W hW)
      have hlt3 : (k : Int) < n := by omega
      obtain ⟨c0, c1, c2, c3, c4, c5⟩ := rng6 (rowP hrow)
      obtain ⟨y, hy⟩ : ∃ y, q (r1, r2, r3, r4, r5, r6) = y := ⟨_, rfl⟩
      rw [hy] at HC HNX
      clear hr hrow hy
      obtain ⟨V, hV⟩ : ∃ V, wr.alloc (.cells #[.int .i64 r1, .int .i64 r2, .int .i64 r3, .int .i64 r4, .int .i64 r5, .int .u64 r6] 93) = V := ⟨_, rfl⟩
      have BV := Lib.hid (show Bel wr V by rw [← hV]; exact (Bel.refl _).alloc _)
      have P0 := Lib.hid (show Blk V wr.heap.size #[.int .i64 r1, .int .i64 r2, .int .i64 r3, .int .i64 r4, .int .i64 r5, .int .u64 r6] 93 by rw [← hV]; exact Blk.new _ _ _)
      obtain ⟨d0, d1, d2, d3, d4, d5⟩ := rng6 (rngB (C := [.int .i64 r1, .int .i64 r2, .int .i64 r3, .int .i64 r4, .int .i64 r5, .int .u64 r6]) P0.out)
      rw [Nat.zero_add] at d1 d2 d3 d4 d5
      go_wp2_with fail
      refine (HC.out _ (hh.out.trans BV.out)).mono ?_
      rintro e V2 ⟨rfl, kb⟩
      have B2 := Lib.hid (hh.out.trans (BV.out.trans kb))
      have P2 := Lib.hid (P0.out.bel kb)
      have HO := Lib.hid (ho.out.bel (BV.out.trans kb))
      clear kb c0 c1 c2 c3 c4 c5 d0 d1 d2 d3 d4 d5 hV HC hh ho
      obtain ⟨g, hg⟩ : ∃ g, wr.heap.size = g := ⟨_, rfl⟩
      rw [hg] at P2 ⊢
      clear hg P0
      cases y
      · go_wp2_with fail
        go_roundw
        case rel => exact ⟨k + 1, by omega, by go_num, Lib.hid (by rw [HNX.out]; simpa using HO.out), B2⟩
        case measure => simp [intOf]; omega
      · obtain ⟨d0, d1, d2, d3, d4, d5⟩ := rng6 (rngB (C := [.int .i64 r1, .int .i64 r2, .int .i64 r3, .int .i64 r4, .int .i64 r5, .int .u64 r6]) P2.out)
        rw [Nat.zero_add] at d1 d2 d3 d4 d5
        have HX := Lib.hid (show RS cP (V2.alloc (.cells #[.int .i64 r1, .int .i64 r2, .int .i64 r3, .int .i64 r4, .int .i64 r5, .int .u64 r6] 93)) (some ⟨V2.heap.size, 0, none⟩) 1 1 [(r1, r2, r3, r4, r5, r6)] from rs_blk c6P (Blk.new _ _ _) rfl (Nat.le_refl _) rfl)
        have HOA := Lib.hid (HO.out.bel ((Bel.refl V2).alloc (.cells #[.int .i64 r1, .int .i64 r2, .int .i64 r3, .int .i64 r4, .int .i64 r5, .int .u64 r6] 93)))
        have HSZ := Lib.hid (Below.size B2.out)
        go_wp2_with (at_builtin; refine wpList_append_P rfl _ _ rfl w.heap.size _ ((l.take k).filter q) rfl HOA.out (some ⟨V2.heap.size, 0, none⟩) 1 1 [(r1, r2, r3, r4, r5, r6)] rfl HX.out (by have := HLE.out; omega) (by have := HSZ.out; simp; omega) ?_; intro v' w1 hown' hgrow)
        have HO2 := Lib.hid hown'
        have hb : Bel w w1 := Kk.Bel.grown (B2.out.alloc _) hgrow (fun k hk => (HOA.out.lt k hk).1)
        have HB2 := Lib.hid hb
        clear hown' hgrow hb
        go_wp2_with fail
        go_roundw
        case rel => exact ⟨k + 1, by omega, by go_num, Lib.hid (by rw [HNX.out]; exact HO2.out), HB2⟩
        case measure => simp [intOf]; omega
    · obtain rfl : k = n := by omega
      have HL := Lib.hid (show l.take k = l from List.take_of_length_le (by rw [HR.out.len]; exact Nat.le_refl _))
      rw [HL.out] at ho
      go_wp2_with fail
      go_ret
      exact ⟨_, rfl, ho.out, hh.out⟩
end Ho
end Go.Proofs.YtneajcoiemkfbaaGreat
end

section
/-
  What holding.addUp answers: whether the positions' shares are the classes'. Conditions: both are in order, each position has a class, at most a million rows.
-/
namespace Go.Proofs.YtneajcoiemkfbaaGreat
open Go.RowKit Go.Shelf
set_option linter.unusedVariables false
attribute [local go_sem] Oper.semAt_some
namespace Ho
open Kk Pm

/-- A row's cells stored anew. -/
theorem flat_set {k : R6 → List Value} (K : C6 k) (o : Nat) (v : Value) (ho : o < 6) : ∀ (l : List R6) (i : Nat) (r r' : R6), l[i]? = some r → k r' = (k r).set o v → (flat k l).set (i * 6 + o) v = flat k (l.set i r')
  | [], i, r, r', h, _ => by simp at h
  | y :: l, 0, r, r', h, he => by
    simp at h; subst h
    show (k y ++ flat k l).set (0 * 6 + o) v = k r' ++ flat k l
    rw [List.set_append_left _ _ (by rw [K.len]; omega), Nat.zero_mul, Nat.zero_add, he]
  | y :: l, i + 1, r, r', h, he => by
    show (k y ++ flat k l).set ((i + 1) * 6 + o) v = k y ++ flat k (l.set i r')
    rw [List.set_append_right _ _ (by rw [K.len]; omega), K.len, show (i + 1) * 6 + o - 6 = i * 6 + o by omega, flat_set K o v ho l i r r' (by simpa using h) he]
/-- A row in a block, known whole. -/
structure RB (k : R6 → List Value) (t : TypeId) (w : World) (g : Nat) (l : List R6) (cap : Nat) : Prop where
  blk : ∃ cur, Blk w g cur t ∧ cur.toList.take (l.length * 6) = flat k l ∧ cur.size = cap * 6
  cap : l.length ≤ cap
section
variable {k : R6 → List Value} {t : TypeId} {w w' : World} {g cap : Nat} {l : List R6}
theorem RB.rs (K : C6 k) (h : RB k t w g l cap) : RS k w (some ⟨g, 0, none⟩) l.length cap l := by
  obtain ⟨cur, h1, h2, h3⟩ := h.blk
  exact rs_blk K h1 rfl h.cap h2
theorem RB.bel (h : RB k t w g l cap) (hb : Bel w w') : RB k t w' g l cap := by
  obtain ⟨cur, h1, h2, h3⟩ := h.blk
  exact ⟨⟨cur, h1.bel hb, h2, h3⟩, h.cap⟩
theorem RB.kep {S : Nat → Prop} (h : RB k t w g l cap) (hb : Kep S w w') (hs : ¬ S g) : RB k t w' g l cap := by
  obtain ⟨cur, h1, h2, h3⟩ := h.blk
  exact ⟨⟨cur, h1.kep hb hs, h2, h3⟩, h.cap⟩
theorem RB.frozen (h : RB k t w g l cap) (i : Nat) : w.frozen? ⟨g, i, none⟩ = false := by
  obtain ⟨cur, h1, _⟩ := h.blk
  exact h1.frozen i
theorem RB.set (K : C6 k) (h : RB k t w g l cap) {i o : Nat} (ho : o < 6) {r r' : R6} {v : Value} (hr : l[i]? = some r) (he : k r' = (k r).set o v) : RB k t (w.setCell ⟨g, i * 6 + o, none⟩ v) g (l.set i r') cap := by
  obtain ⟨cur, h1, h2, h3⟩ := h.blk
  have hi := (List.getElem?_eq_some_iff.1 hr).1
  refine ⟨⟨_, h1.set _ v, ?_, by simpa using h3⟩, by simpa using h.cap⟩
  rw [List.length_set, Array.toList_setIfInBounds, List.take_set, h2, flat_set K o v ho l i r r' hr he]
theorem RB.grown (h : RB k t w g l cap) {row : Option Nat} (hg : w.grownBy w' row) (hr : ∀ r, row = some r → ∃ o : Obj, w.heap[r]? = some o ∧ o.isCells = false) : RB k t w' g l cap := by
  obtain ⟨cur, h1, h2, h3⟩ := h.blk
  exact ⟨⟨cur, blk_grown h1 hg hr, h2, h3⟩, h.cap⟩
end
theorem rb_own {k : R6 → List Value} (K : C6 k) {t : TypeId} {w : World} {base : Nat} {v : Value} {l : List R6} (h : OwnR k t w base v l) (hl : 0 < l.length) : ∃ g cap, v = .slice (some ⟨g, 0, none⟩) l.length cap ∧ base ≤ g ∧ RB k t w g l cap ∧ cap ≤ maxLen := by
  rcases h.2 with ⟨_, h0⟩ | ⟨g, cap, cur, e, hbg, hg, hnc, hm, hcs, ht⟩
  · omega
  · exact ⟨g, cap, e, hbg, ⟨⟨cur, hg, ht, hcs⟩, hnc⟩, hm⟩

/-- What is left of the classes' shares. -/
def sub1 (ps : List R6) : R6 → R6
  | (a, b, c, d, e, f) => (a, b, c, d, e, f - sumS ps (a, b, c, d, e, f))
def lft (cs ps : List R6) : List R6 := cs.map (sub1 ps)
theorem sumS_snoc (ps : List R6) (x r : R6) : sumS (ps ++ [x]) r = sumS ps r + (if ordC (stp x) r = 0 then shr x else 0) := by
  unfold sumS
  rw [List.map_append, List.sum_append]
  simp
theorem sumS0 {ps : List R6} (h : ∀ p ∈ ps, 0 ≤ shr p) (r : R6) : 0 ≤ sumS ps r := by
  induction ps with
  | nil => exact Int.le_refl _
  | cons p ps ih =>
    have h1 := ih (fun q hq => h q (List.mem_cons_of_mem _ hq))
    have h2 := h p (List.mem_cons_self ..)
    show 0 ≤ ((if ordC (stp p) r = 0 then shr p else 0) :: ps.map fun p => if ordC (stp p) r = 0 then shr p else 0).sum
    rw [List.sum_cons]
    have h3 : (ps.map fun p => if ordC (stp p) r = 0 then shr p else 0).sum = sumS ps r := rfl
    split <;> omega
theorem sumS_pre {ps qs : List R6} (h : ∀ p ∈ ps, 0 ≤ shr p) (hp : qs <+: ps) (r : R6) : sumS qs r ≤ sumS ps r := by
  obtain ⟨t, rfl⟩ := hp
  have : sumS (qs ++ t) r = sumS qs r + sumS t r := by unfold sumS; rw [List.map_append, List.sum_append]
  have := sumS0 (ps := t) (fun p hp => h p (List.mem_append_right _ hp)) r
  omega
theorem lft_key (cs ps : List R6) : (lft cs ps).map key = cs.map key := by
  unfold lft
  rw [List.map_map]
  rfl
/-- One more position: its class alone has less. -/
theorem lft_snoc {cs ps : List R6} (hs : Srt ordC cs) (x : R6) {r : R6} (hr : cs[pos ordC cs (stp x)]? = some r) (h0 : ordC r (stp x) = 0) :
    lft cs (ps ++ [x]) = (lft cs ps).set (pos ordC cs (stp x)) (sub1 (ps ++ [x]) r) ∧ sub1 (ps ++ [x]) r = (r.1, r.2.1, r.2.2.1, r.2.2.2.1, r.2.2.2.2.1, (sub1 ps r).2.2.2.2.2 - shr x) := by
  refine ⟨List.ext_getElem? fun j => ?_, ?_⟩
  · unfold lft
    rw [List.getElem?_map, List.getElem?_set, List.length_map, List.getElem?_map]
    by_cases hj : pos ordC cs (stp x) = j
    · subst hj
      rw [if_pos rfl, if_pos (List.getElem?_eq_some_iff.1 hr).1, hr]; rfl
    · rw [if_neg hj]
      cases hc : cs[j]? with
      | none => rfl
      | some y =>
        have hne : ¬ ordC (stp x) y = 0 := fun h => by
          have h1 := odC.sym h
          have g1 := get_mem odC hs (List.mem_of_getElem? hc) h1
          have g2 := get_mem odC hs (List.mem_of_getElem? hr) h0
          have e : some y = some r := g1.symm.trans g2
          injection e with e
          subst e
          have l1 := (List.getElem?_eq_some_iff.1 hc)
          have l2 := (List.getElem?_eq_some_iff.1 hr)
          have hnd : ∀ i k (hi : i < cs.length) (hk : k < cs.length), i < k → ordC cs[i] cs[k] < 0 := fun i k hi hk hik => List.pairwise_iff_getElem.1 hs i k hi hk hik
          rcases Nat.lt_or_ge j (pos ordC cs (stp x)) with hh | hh
          · have := hnd j _ l1.1 l2.1 hh
            rw [l1.2, l2.2, odC.self] at this
            omega
          · have := hnd _ j l2.1 l1.1 (by omega)
            rw [l1.2, l2.2, odC.self] at this
            omega
        obtain ⟨a, b, c, d, e, f⟩ := y
        show some (sub1 (ps ++ [x]) _) = some (sub1 ps _)
        unfold sub1
        simp only [sumS_snoc, if_neg hne, Int.add_zero]
  · obtain ⟨a, b, c, d, e, f⟩ := r
    show (a, b, c, d, e, f - sumS (ps ++ [x]) (a, b, c, d, e, f)) = (a, b, c, d, e, f - sumS ps (a, b, c, d, e, f) - shr x)
    rw [sumS_snoc, if_pos (odC.sym h0)]
    congr 5
    omega

/-- Between two rounds. -/
structure AuI (w : World) (g gl p : Nat) (A : Option Addr) (n c : Nat) (B : Option Addr) (m d : Nat) (A2 : Option Addr) (c2 : Nat) (cs ps : List R6) (pre : List (Ps ps)) (V : World) : Prop where
  hi : Hi p A2 n c2 B m d (cs.map key) ps V
  bx : Blk V (g + 1) #[.bool false] 4
  le : Blk V gl #[.slice A2 n c2, .slice B m d] 25
  rb : 0 < n → ∃ gc, A2 = some ⟨gc, 0, none⟩ ∧ w.heap.size ≤ gc ∧ RB cC 90 V gc (lft cs (pre.map (fun e : Ps ps => e.1))) c2
  bel : Bel w V
  no : ∀ r ∈ cs, sumS (pre.map (fun e : Ps ps => e.1)) r ≤ shr r
/-- Left with false. -/
def AuX (w : World) (g : Nat) (cs ps : List R6) (cd : Code) (pre : List (Ps ps)) (V : World) : Prop :=
  cd = .ret ∧ (∃ r ∈ cs, shr r < sumS (pre.map (fun e : Ps ps => e.1)) r) ∧ Blk V (g + 1) #[.bool false] 4 ∧ Bel w V
theorem addUp1 (x1 x2 x3 x4 x5 x6 : Int) (w : World) : Calls Tryz.prog 137 #[.agg (cC (x1, x2, x3, x4, x5, x6)).toArray] w fun e w' => e = .returned (.bool (decide (0 < x6))) ∧ Bel w w' := by
  show Calls Tryz.prog 137 #[.agg #[.int .i64 x1, .int .i64 x2, .int .i64 x3, .int .i64 x4, .int .u64 x5, .int .u64 x6]] w _
  have B0 := Lib.hid ((Bel.refl w).alloc (.cells #[.int .i64 x1, .int .i64 x2, .int .i64 x3, .int .i64 x4, .int .u64 x5, .int .u64 x6] 90))
  go_enter Tryz.func137, Tryz.ntmps137
  go_wp2_with fail
  go_ret
  exact ⟨rfl, B0.out⟩
/-- The first class that has more than nothing. -/
def idxB (q : R6 → Bool) : List R6 → Nat → Int
  | [], _ => -1
  | r :: l, k => if q r then (k : Int) else idxB q l (k + 1)
theorem idxB_at (q : R6 → Bool) : ∀ (l : List R6) (i k : Nat) (r : R6), l[i]? = some r → q r = true → (∀ (j : Nat) (x : R6), j < i → l[j]? = some x → q x = false) → idxB q l k = ((k + i : Nat) : Int)
  | [], i, k, r, h, _, _ => by simp at h
  | y :: l, 0, k, r, h, hq, _ => by simp at h; subst h; simp [idxB, hq]
  | y :: l, i + 1, k, r, h, hq, hb => by
    have h0 : q y = false := hb 0 y (by omega) rfl
    have := idxB_at q l i (k + 1) r (by simpa using h) hq (fun j x hj hl => hb (j + 1) x (by omega) (by simpa using hl))
    show (if q y = true then (k : Int) else idxB q l (k + 1)) = _
    rw [h0, if_neg (by decide), this]
    push_cast
    omega
theorem idxB_no (q : R6 → Bool) : ∀ (l : List R6) (k : Nat), (∀ (j : Nat) (x : R6), l[j]? = some x → q x = false) → idxB q l k = -1
  | [], k, _ => rfl
  | y :: l, k, hb => by
    have h0 : q y = false := hb 0 y rfl
    show (if q y = true then (k : Int) else idxB q l (k + 1)) = _
    rw [h0, if_neg (by decide), idxB_no q l (k + 1) (fun j x hl => hb (j + 1) x (by simpa using hl))]
set_option maxRecDepth 10000 in
set_option maxHeartbeats 2000000 in
theorem indexFuncC (q : R6 → Bool) (F : Nat) (lb : Array Value) (A : Option Addr) (n c : Nat) (l : List R6) (w : World) (hi : RS cC w A n c l) (hn : n ≤ 1000000000) (eg : ∀ args w, (callFunc F args).run Tryz.prog w = .ok (.enter F args) w)
    (hF : ∀ r W, Bel w W → Calls Tryz.prog F (#[.agg (cC r).toArray] ++ lb) W fun e W' => e = .returned (.bool (q r)) ∧ Bel W W') :
    Calls Tryz.prog 185 #[.slice A n c, .func (.func F) #[] lb] w fun e w' => e = .returned (.int .i64 (idxB q l 0)) ∧ Bel w w' := by
  have HR := Lib.hid hi
  have HF := Lib.hid hF
  clear hi hF
  go_enter Tryz.func185, Tryz.ntmps185
  go_wp2_with fail
  go_loopw [8] (fun i wr => ∃ k : Nat, k ≤ n ∧ i = .int .i64 k ∧ Hid ((∀ (j : Nat) (x : R6), j < k → l[j]? = some x → q x = false) ∧ Bel w wr)) (fun i _ => n - (intOf i).toNat)
  case atStart => exact ⟨0, Nat.zero_le _, rfl, Lib.hid ⟨fun j x hj => absurd hj (by omega), Bel.refl _⟩⟩
  case round =>
    obtain ⟨k, hk, rfl, hh⟩ := hrel
    by_cases hlt : k < n
    · obtain ⟨⟨r1, r2, r3, r4, r5, r6⟩, hr⟩ := HR.out.get hlt
      obtain ⟨b, o, rfl, hb, hrow⟩ := (HR.out.bel hh.out.2).at hlt hr
      have HRR := Lib.hid hr
      have HC := Lib.hid (fun W hW => HF.out (r1, r2, r3, r4, r5, r6) W hW)
      have hlt3 : (k : Int) < n := by omega
      obtain ⟨c0, c1, c2, c3, c4, c5⟩ := rng6 (rowC hrow)
      obtain ⟨y, hy⟩ : ∃ y, q (r1, r2, r3, r4, r5, r6) = y := ⟨_, rfl⟩
      have HY := Lib.hid hy
      rw [hy] at HC
      clear hr hrow hy
      go_wp2_with fail
      refine (HC.out _ hh.out.2).mono ?_
      rintro e V2 ⟨rfl, kb⟩
      have B2 := Lib.hid (hh.out.2.trans kb)
      clear kb c0 c1 c2 c3 c4 c5
      cases y
      · go_wp2_with fail
        go_roundw
        case rel =>
          refine ⟨k + 1, by omega, by go_num, Lib.hid ⟨fun j x hj hx => ?_, B2.out⟩⟩
          rcases Nat.lt_or_ge j k with h' | h'
          · exact hh.out.1 j x h' hx
          · obtain rfl : j = k := by omega
            have := HRR.out.symm.trans hx
            injection this with this
            rw [← this]; exact HY.out
        case measure => simp [intOf]; omega
      · go_wp2_with fail
        go_ret
        exact ⟨by rw [idxB_at q l k 0 _ HRR.out HY.out (fun j x hj hx => hh.out.1 j x hj hx), Nat.zero_add]; rfl, B2.out⟩
    · obtain rfl : k = n := by omega
      go_wp2_with fail
      go_ret
      exact ⟨by rw [idxB_no q l 0 (fun j x hx => hh.out.1 j x (by have := (List.getElem?_eq_some_iff.1 hx).1; have := HR.out.len; omega) hx)]; rfl, hh.out.2⟩
theorem idxB_any (q : R6 → Bool) : ∀ (l : List R6) (k : Nat), decide (0 ≤ idxB q l k) = l.any q
  | [], k => rfl
  | y :: l, k => by
    show decide (0 ≤ if q y = true then (k : Int) else idxB q l (k + 1)) = (q y || l.any q)
    cases h : q y
    · rw [if_neg (by decide), idxB_any q l (k + 1), Bool.false_or]
    · rw [if_pos rfl, Bool.true_or]; exact decide_eq_true (by omega)
theorem containsC (q : R6 → Bool) (F : Nat) (lb : Array Value) (A : Option Addr) (n c : Nat) (l : List R6) (w : World) (hi : RS cC w A n c l) (hn : n ≤ 1000000000) (eg : ∀ args w, (callFunc F args).run Tryz.prog w = .ok (.enter F args) w)
    (hF : ∀ r W, Bel w W → Calls Tryz.prog F (#[.agg (cC r).toArray] ++ lb) W fun e W' => e = .returned (.bool (q r)) ∧ Bel W W') :
    Calls Tryz.prog 136 #[.slice A n c, .func (.func F) #[] lb] w fun e w' => e = .returned (.bool (l.any q)) ∧ Bel w w' := by
  rw [← idxB_any q l 0]
  have IX := Lib.hid (indexFuncC q F lb A n c l w hi hn eg hF)
  clear hi hF
  obtain ⟨i, hI⟩ : ∃ i, idxB q l 0 = i := ⟨_, rfl⟩
  rw [hI] at IX ⊢
  clear hI
  go_enter Tryz.func136, Tryz.ntmps136
  go_wp2_with fail
  refine IX.out.mono ?_
  rintro e w1 ⟨rfl, kb⟩
  have KB := Lib.hid kb
  clear kb IX
  go_wp2_with fail
  go_ret
  exact ⟨rfl, KB.out⟩
end Ho
end Go.Proofs.YtneajcoiemkfbaaGreat
end
