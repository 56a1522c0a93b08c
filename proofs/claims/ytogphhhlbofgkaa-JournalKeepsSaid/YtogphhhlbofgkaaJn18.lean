/-
  The statements' acts: does. Condition: the journal lies in memory as JD says, and no more than 64 levels are open.
-/
import Derived.Test.YtogphhhlbofgkaaJn17
namespace Go.Proofs.Ytogphhhlbofgkaa
open Go.RowKit Go.Shelf Go.Maps
set_option linter.unusedVariables false
namespace Jn
open Kk Pm Bk

abbrev actV (a i k u : Int) : Value := .agg #[.int .i64 a, .int .i64 i, .int .i64 k, .int .u64 u]
/-- An act's numbers, as they come in. -/
structure ActB (a i k u : Int) : Prop where
  a0 : -9223372036854775808 ≤ a
  a1 : a ≤ 9223372036854775807
  i0 : -9223372036854775808 ≤ i
  i1 : i ≤ 9223372036854775807
  k0 : -9223372036854775808 ≤ k
  k1 : k ≤ 9223372036854775807
  u0 : 0 ≤ u
  u1 : u ≤ 18446744073709551615
/-- A list of acts. -/
def Acts (w : World) (A : Option Addr) (n : Nat) : Prop := 0 < n → ∃ b o, A = some ⟨b, o, none⟩ ∧ b < w.heap.size ∧ ∀ j, j < n → ∃ a i k u, ActB a i k u ∧ w.rangeAt b (o + j * 4) [.int .i64 a, .int .i64 i, .int .i64 k, .int .u64 u]
theorem Acts.bel {w w' : World} {A : Option Addr} {n : Nat} (h : Acts w A n) (hb : Bel w w') : Acts w' A n := fun hn => by
  obtain ⟨b, o, e, hlt, hi⟩ := h hn
  refine ⟨b, o, e, Nat.lt_of_lt_of_le hlt (Below.size hb), fun j hj => ?_⟩
  obtain ⟨a, i, k, u, hB, hr⟩ := hi j hj
  exact ⟨a, i, k, u, hB, rng_bel hr hb⟩
theorem acts_nil (w : World) (A : Option Addr) : Acts w A 0 := fun h => absurd h (by omega)

/-- What an act answers, and what it makes of cells and levels. -/
def actE (zs : List Int) (L : List Lv) (a i k u : Int) : Int :=
  if a = 0 then inE zs.length i else if a = 1 then addR zs i u else if a = 2 then subR zs i u else if a = 3 then movE zs i k u else if a = 4 then begE L else if a = 5 then opE L else if a = 6 then opE L else if a = 7 then backE L i else 0
def actZ (zs : List Int) (L : List Lv) (a i k u : Int) : List Int :=
  if a = 0 then setS zs i u else if a = 1 then addS zs i u else if a = 2 then subS zs i u else if a = 3 then movS zs i k u else if a = 4 then zs else if a = 5 then zs else if a = 6 then undZ zs L else if a = 7 then backZZ zs L i else zs
def actL (zs : List Int) (L : List Lv) (a i k u : Int) : List Lv :=
  if a = 0 then setL zs L i else if a = 1 then addL zs L i u else if a = 2 then subL zs L i u else if a = 3 then movL zs L i k u else if a = 4 then begL zs L else if a = 5 then keepS L else if a = 6 then undL L else if a = 7 then backLL L i else L
theorem touch_len (L : List Lv) (i : Nat) : (touch L i).length = L.length := by cases L <;> rfl
theorem keepS_len (L : List Lv) : (keepS L).length ≤ L.length := by
  match L with
  | [] => exact Nat.le_refl _
  | [_] => exact Nat.zero_le _
  | (_, _) :: (_, _) :: r => simp [keepS]
theorem undL_len (L : List Lv) : (undL L).length ≤ L.length := by cases L <;> simp [undL]
theorem backL_le (d : Nat) : ∀ L : List Lv, (backL d L).length ≤ L.length := by
  intro L
  induction L with
  | nil => exact Nat.le_refl _
  | cons a L ih =>
    unfold backL
    split
    · exact Nat.le_refl _
    · rw [List.length_cons]; omega
theorem actL_len (zs : List Int) (L : List Lv) (a i k u : Int) (h : L.length ≤ 64) : (actL zs L a i k u).length ≤ 64 := by
  unfold actL
  split
  · unfold setL; split
    · rw [touch_len]; exact h
    · exact h
  · split
    · unfold addL; split
      · rw [touch_len]; exact h
      · exact h
    · split
      · unfold subL; split
        · rw [touch_len]; exact h
        · exact h
      · split
        · unfold movL; split
          · rw [touch_len, touch_len]; exact h
          · exact h
        · split
          · unfold begL; split
            · rw [List.length_cons]; omega
            · exact h
          · split
            · exact Nat.le_trans (keepS_len L) h
            · split
              · exact Nat.le_trans (undL_len L) h
              · split
                · unfold backLL; split
                  · exact Nat.le_trans (backL_le _ L) h
                  · exact h
                · exact h

/-- What a call leaves: the journal with its new cells and levels, its blocks its own or new. -/
def Aft (w : World) (M I : Nat → Prop) (pj : Nat) (zs : List Int) (L : List Lv) (w' : World) : Prop := ∃ M' I', JD w' M' I' pj zs L ∧ Step w w' M I M' I'
theorem Aft.of {a w w' : World} {M I : Nat → Prop} {pj : Nat} {zs : List Int} {L : List Lv} (hb : Bel a w) (h : Aft w M I pj zs L w') : Aft a M I pj zs L w' := by
  obtain ⟨M', I', hj, hs⟩ := h
  exact ⟨M', I', hj, (Step.of_bel M I hb).trans hs⟩

set_option maxRecDepth 100000 in
set_option maxHeartbeats 4000000 in
theorem does {w : World} {M I : Nat → Prop} {pj : Nat} {zs : List Int} {L : List Lv} (h : JD w M I pj zs L) (hl : L.length ≤ 64) (a i k u : Int) (hB : ActB a i k u) :
    Calls Try.prog 17 #[.pointer (some ⟨pj, 0, none⟩), actV a i k u] w fun e w' => e = .returned (.int .i64 (actE zs L a i k u)) ∧ Aft w M I pj (actZ zs L a i k u) (actL zs L a i k u) w' := by
  obtain ⟨W0, hW0⟩ : ∃ W0, w.alloc (.cells #[.int .i64 a, .int .i64 i, .int .i64 k, .int .u64 u] 33) = W0 := ⟨_, rfl⟩
  obtain ⟨q, hq⟩ : ∃ q, w.heap.size = q := ⟨_, rfl⟩
  have b0 : Bel w W0 := by rw [← hW0]; exact (Bel.refl w).alloc _
  have bq : Blk W0 q #[.int .i64 a, .int .i64 i, .int .i64 k, .int .u64 u] 33 := by rw [← hW0, ← hq]; exact Blk.new w _ _
  have c0 := bq.cell 0 rfl
  have c1 := bq.cell 1 rfl
  have c2 := bq.cell 2 rfl
  have c3 := bq.cell 3 rfl
  have h' := h.bel b0
  have HB0 := Lib.hid b0
  have HW := Lib.hid hW0
  have HQ := Lib.hid hq
  have HJ := Lib.hid h'
  clear h b0 bq hW0 hq
  by_cases h0 : a = 0
  · subst h0
    have C := Lib.hid (setD h' i u hB.u0 hB.u1)
    clear h'
    show Calls _ _ _ _ fun e w' => e = .returned (.int .i64 (inE zs.length i)) ∧ Aft w M I pj (setS zs i u) (setL zs L i) w'
    go_enter Try.func17, Try.ntmps17
    go_upto_region 1 with fail
    rw [HQ.out, HW.out]
    go_wp2_with fail
    refine C.out.mono ?_
    rintro e w1 ⟨rfl, I', hj, hs⟩
    have H := Lib.hid (And.intro hj hs)
    clear hj hs
    go_wp2
    go_ret
    exact ⟨rfl, Aft.of HB0.out ⟨M, I', H.out.1, H.out.2⟩⟩
  by_cases h1 : a = 1
  · subst h1
    have C := Lib.hid (addD h' i u hB.u0 hB.u1)
    clear h'
    show Calls _ _ _ _ fun e w' => e = .returned (.int .i64 (addR zs i u)) ∧ Aft w M I pj (addS zs i u) (addL zs L i u) w'
    go_enter Try.func17, Try.ntmps17
    go_upto_region 1 with fail
    rw [HQ.out, HW.out]
    go_wp2_with fail
    refine C.out.mono ?_
    rintro e w1 ⟨rfl, I', hj, hs⟩
    have H := Lib.hid (And.intro hj hs)
    clear hj hs
    go_wp2
    go_ret
    exact ⟨rfl, Aft.of HB0.out ⟨M, I', H.out.1, H.out.2⟩⟩
  by_cases h2 : a = 2
  · subst h2
    have C := Lib.hid (subD h' i u hB.u0 hB.u1)
    clear h'
    show Calls _ _ _ _ fun e w' => e = .returned (.int .i64 (subR zs i u)) ∧ Aft w M I pj (subS zs i u) (subL zs L i u) w'
    go_enter Try.func17, Try.ntmps17
    go_upto_region 1 with fail
    rw [HQ.out, HW.out]
    go_wp2_with fail
    refine C.out.mono ?_
    rintro e w1 ⟨rfl, I', hj, hs⟩
    have H := Lib.hid (And.intro hj hs)
    clear hj hs
    go_wp2
    go_ret
    exact ⟨rfl, Aft.of HB0.out ⟨M, I', H.out.1, H.out.2⟩⟩
  by_cases h3 : a = 3
  · subst h3
    have C := Lib.hid (moveD h' hl i k u hB.u0 hB.u1)
    clear h'
    show Calls _ _ _ _ fun e w' => e = .returned (.int .i64 (movE zs i k u)) ∧ Aft w M I pj (movS zs i k u) (movL zs L i k u) w'
    go_enter Try.func17, Try.ntmps17
    go_upto_region 1 with fail
    rw [HQ.out, HW.out]
    go_wp2_with fail
    refine C.out.mono ?_
    rintro e w1 ⟨rfl, M', I', hj, hs⟩
    have H := Lib.hid (And.intro hj hs)
    clear hj hs
    go_wp2
    go_ret
    exact ⟨rfl, Aft.of HB0.out ⟨M', I', H.out.1, H.out.2⟩⟩
  by_cases h4 : a = 4
  · subst h4
    have C := Lib.hid (begD h')
    clear h'
    show Calls _ _ _ _ fun e w' => e = .returned (.int .i64 (begE L)) ∧ Aft w M I pj (zs) (begL zs L) w'
    go_enter Try.func17, Try.ntmps17
    go_upto_region 1 with fail
    rw [HQ.out, HW.out]
    go_wp2_with fail
    refine C.out.mono ?_
    rintro e w1 ⟨rfl, M', hj, hs⟩
    have H := Lib.hid (And.intro hj hs)
    clear hj hs
    go_wp2
    go_ret
    exact ⟨rfl, Aft.of HB0.out ⟨M', I, H.out.1, H.out.2⟩⟩
  by_cases h5 : a = 5
  · subst h5
    have C := Lib.hid (keepDD h')
    clear h'
    show Calls _ _ _ _ fun e w' => e = .returned (.int .i64 (opE L)) ∧ Aft w M I pj (zs) (keepS L) w'
    go_enter Try.func17, Try.ntmps17
    go_upto_region 1 with fail
    rw [HQ.out, HW.out]
    go_wp2_with fail
    refine C.out.mono ?_
    rintro e w1 ⟨rfl, I', hj, hs⟩
    have H := Lib.hid (And.intro hj hs)
    clear hj hs
    go_wp2
    go_ret
    exact ⟨rfl, Aft.of HB0.out ⟨M, I', H.out.1, H.out.2⟩⟩
  by_cases h6 : a = 6
  · subst h6
    have C := Lib.hid (undoDD h')
    clear h'
    show Calls _ _ _ _ fun e w' => e = .returned (.int .i64 (opE L)) ∧ Aft w M I pj (undZ zs L) (undL L) w'
    go_enter Try.func17, Try.ntmps17
    go_upto_region 1 with fail
    rw [HQ.out, HW.out]
    go_wp2_with fail
    refine C.out.mono ?_
    rintro e w1 ⟨rfl, hj, hs⟩
    have H := Lib.hid (And.intro hj hs)
    clear hj hs
    go_wp2
    go_ret
    exact ⟨rfl, Aft.of HB0.out ⟨M, I, H.out.1, H.out.2⟩⟩
  by_cases h7 : a = 7
  · subst h7
    have C := Lib.hid (backD h' i)
    clear h'
    show Calls _ _ _ _ fun e w' => e = .returned (.int .i64 (backE L i)) ∧ Aft w M I pj (backZZ zs L i) (backLL L i) w'
    go_enter Try.func17, Try.ntmps17
    go_upto_region 1 with fail
    rw [HQ.out, HW.out]
    go_wp2_with fail
    refine C.out.mono ?_
    rintro e w1 ⟨rfl, hj, hs⟩
    have H := Lib.hid (And.intro hj hs)
    clear hj hs
    go_wp2
    go_ret
    exact ⟨rfl, Aft.of HB0.out ⟨M, I, H.out.1, H.out.2⟩⟩
  have n0 : (a == 0) = false := by rw [beq_eq_false_iff_ne]; exact h0
  have n1 : (a == 1) = false := by rw [beq_eq_false_iff_ne]; exact h1
  have n2 : (a == 2) = false := by rw [beq_eq_false_iff_ne]; exact h2
  have n3 : (a == 3) = false := by rw [beq_eq_false_iff_ne]; exact h3
  have n4 : (a == 4) = false := by rw [beq_eq_false_iff_ne]; exact h4
  have n5 : (a == 5) = false := by rw [beq_eq_false_iff_ne]; exact h5
  have n6 : (a == 6) = false := by rw [beq_eq_false_iff_ne]; exact h6
  have n7 : (a == 7) = false := by rw [beq_eq_false_iff_ne]; exact h7
  have e1 : actE zs L a i k u = 0 := by unfold actE; rw [if_neg h0, if_neg h1, if_neg h2, if_neg h3, if_neg h4, if_neg h5, if_neg h6, if_neg h7]
  have e2 : actZ zs L a i k u = zs := by unfold actZ; rw [if_neg h0, if_neg h1, if_neg h2, if_neg h3, if_neg h4, if_neg h5, if_neg h6, if_neg h7]
  have e3 : actL zs L a i k u = L := by unfold actL; rw [if_neg h0, if_neg h1, if_neg h2, if_neg h3, if_neg h4, if_neg h5, if_neg h6, if_neg h7]
  rw [e1, e2, e3]
  clear e1 e2 e3 h0 h1 h2 h3 h4 h5 h6 h7 h'
  go_enter Try.func17, Try.ntmps17
  go_upto_region 1 with fail
  rw [HQ.out, HW.out]
  go_wp2
  go_ret
  exact ⟨rfl, M, I, HJ.out, Step.of_bel M I HB0.out⟩

/-- At a journal that is nil, or that nobody made. -/
def act0E (a : Int) : Int := if 0 ≤ a ∧ a < 8 then 1 else 0
set_option maxRecDepth 100000 in
set_option maxHeartbeats 4000000 in
theorem does0 (v : Value) (w : World) (h : Null w v) (a i k u : Int) :
    Calls Try.prog 17 #[v, actV a i k u] w fun e w' => e = .returned (.int .i64 (act0E a)) ∧ Bel w w' := by
  obtain ⟨W0, hW0⟩ : ∃ W0, w.alloc (.cells #[.int .i64 a, .int .i64 i, .int .i64 k, .int .u64 u] 33) = W0 := ⟨_, rfl⟩
  obtain ⟨q, hq⟩ : ∃ q, w.heap.size = q := ⟨_, rfl⟩
  have b0 : Bel w W0 := by rw [← hW0]; exact (Bel.refl w).alloc _
  have bq : Blk W0 q #[.int .i64 a, .int .i64 i, .int .i64 k, .int .u64 u] 33 := by rw [← hW0, ← hq]; exact Blk.new w _ _
  have c0 := bq.cell 0 rfl
  have c1 := bq.cell 1 rfl
  have c2 := bq.cell 2 rfl
  have c3 := bq.cell 3 rfl
  have h' := h.bel b0
  have HB0 := Lib.hid b0
  have HW := Lib.hid hW0
  have HQ := Lib.hid hq
  have hv : v = .pointer none ∨ ∃ b, v = .pointer (some ⟨b, 0, none⟩) := by
    rcases h with h | ⟨b, h, _⟩
    · exact .inl h
    · exact .inr ⟨b, h⟩
  clear h b0 bq hW0 hq
  by_cases h0 : a = 0
  · subst h0
    have C := Lib.hid (set0 v i u W0 h')
    have e1 : act0E 0 = 1 := rfl
    rw [e1]
    clear h' e1
    rcases hv with rfl | ⟨b, rfl⟩
    all_goals
      go_enter Try.func17, Try.ntmps17
      go_upto_region 1 with fail
      rw [HQ.out, HW.out]
      go_wp2_with fail
      refine C.out.mono ?_
      rintro e w1 ⟨rfl, hb⟩
      have HB := Lib.hid (HB0.out.trans hb)
      clear hb
      go_wp2
      go_ret
      exact ⟨rfl, HB.out⟩
  by_cases h1 : a = 1
  · subst h1
    have C := Lib.hid (add0 v i u W0 h')
    have e1 : act0E 1 = 1 := rfl
    rw [e1]
    clear h' e1
    rcases hv with rfl | ⟨b, rfl⟩
    all_goals
      go_enter Try.func17, Try.ntmps17
      go_upto_region 1 with fail
      rw [HQ.out, HW.out]
      go_wp2_with fail
      refine C.out.mono ?_
      rintro e w1 ⟨rfl, hb⟩
      have HB := Lib.hid (HB0.out.trans hb)
      clear hb
      go_wp2
      go_ret
      exact ⟨rfl, HB.out⟩
  by_cases h2 : a = 2
  · subst h2
    have C := Lib.hid (sub0 v i u W0 h')
    have e1 : act0E 2 = 1 := rfl
    rw [e1]
    clear h' e1
    rcases hv with rfl | ⟨b, rfl⟩
    all_goals
      go_enter Try.func17, Try.ntmps17
      go_upto_region 1 with fail
      rw [HQ.out, HW.out]
      go_wp2_with fail
      refine C.out.mono ?_
      rintro e w1 ⟨rfl, hb⟩
      have HB := Lib.hid (HB0.out.trans hb)
      clear hb
      go_wp2
      go_ret
      exact ⟨rfl, HB.out⟩
  by_cases h3 : a = 3
  · subst h3
    have C := Lib.hid (move0 v i k u W0 h')
    have e1 : act0E 3 = 1 := rfl
    rw [e1]
    clear h' e1
    rcases hv with rfl | ⟨b, rfl⟩
    all_goals
      go_enter Try.func17, Try.ntmps17
      go_upto_region 1 with fail
      rw [HQ.out, HW.out]
      go_wp2_with fail
      refine C.out.mono ?_
      rintro e w1 ⟨rfl, hb⟩
      have HB := Lib.hid (HB0.out.trans hb)
      clear hb
      go_wp2
      go_ret
      exact ⟨rfl, HB.out⟩
  by_cases h4 : a = 4
  · subst h4
    have C := Lib.hid (begin0 v W0 h')
    have e1 : act0E 4 = 1 := rfl
    rw [e1]
    clear h' e1
    rcases hv with rfl | ⟨b, rfl⟩
    all_goals
      go_enter Try.func17, Try.ntmps17
      go_upto_region 1 with fail
      rw [HQ.out, HW.out]
      go_wp2_with fail
      refine C.out.mono ?_
      rintro e w1 ⟨rfl, hb⟩
      have HB := Lib.hid (HB0.out.trans hb)
      clear hb
      go_wp2
      go_ret
      exact ⟨rfl, HB.out⟩
  by_cases h5 : a = 5
  · subst h5
    have C := Lib.hid (keep0 v W0 h')
    have e1 : act0E 5 = 1 := rfl
    rw [e1]
    clear h' e1
    rcases hv with rfl | ⟨b, rfl⟩
    all_goals
      go_enter Try.func17, Try.ntmps17
      go_upto_region 1 with fail
      rw [HQ.out, HW.out]
      go_wp2_with fail
      refine C.out.mono ?_
      rintro e w1 ⟨rfl, hb⟩
      have HB := Lib.hid (HB0.out.trans hb)
      clear hb
      go_wp2
      go_ret
      exact ⟨rfl, HB.out⟩
  by_cases h6 : a = 6
  · subst h6
    have C := Lib.hid (undo0 v W0 h')
    have e1 : act0E 6 = 1 := rfl
    rw [e1]
    clear h' e1
    rcases hv with rfl | ⟨b, rfl⟩
    all_goals
      go_enter Try.func17, Try.ntmps17
      go_upto_region 1 with fail
      rw [HQ.out, HW.out]
      go_wp2_with fail
      refine C.out.mono ?_
      rintro e w1 ⟨rfl, hb⟩
      have HB := Lib.hid (HB0.out.trans hb)
      clear hb
      go_wp2
      go_ret
      exact ⟨rfl, HB.out⟩
  by_cases h7 : a = 7
  · subst h7
    have C := Lib.hid (back0 v i W0 h')
    have e1 : act0E 7 = 1 := rfl
    rw [e1]
    clear h' e1
    rcases hv with rfl | ⟨b, rfl⟩
    all_goals
      go_enter Try.func17, Try.ntmps17
      go_upto_region 1 with fail
      rw [HQ.out, HW.out]
      go_wp2_with fail
      refine C.out.mono ?_
      rintro e w1 ⟨rfl, hb⟩
      have HB := Lib.hid (HB0.out.trans hb)
      clear hb
      go_wp2
      go_ret
      exact ⟨rfl, HB.out⟩
  have n0 : (a == 0) = false := by rw [beq_eq_false_iff_ne]; exact h0
  have n1 : (a == 1) = false := by rw [beq_eq_false_iff_ne]; exact h1
  have n2 : (a == 2) = false := by rw [beq_eq_false_iff_ne]; exact h2
  have n3 : (a == 3) = false := by rw [beq_eq_false_iff_ne]; exact h3
  have n4 : (a == 4) = false := by rw [beq_eq_false_iff_ne]; exact h4
  have n5 : (a == 5) = false := by rw [beq_eq_false_iff_ne]; exact h5
  have n6 : (a == 6) = false := by rw [beq_eq_false_iff_ne]; exact h6
  have n7 : (a == 7) = false := by rw [beq_eq_false_iff_ne]; exact h7
  have e1 : act0E a = 0 := by unfold act0E; rw [if_neg (by omega)]
  rw [e1]
  clear e1 h0 h1 h2 h3 h4 h5 h6 h7 h'
  rcases hv with rfl | ⟨b, rfl⟩
  all_goals
    go_enter Try.func17, Try.ntmps17
    go_upto_region 1 with fail
    rw [HQ.out, HW.out]
    go_wp2
    go_ret
    exact ⟨rfl, HB0.out⟩
end Jn
end Go.Proofs.Ytogphhhlbofgkaa
