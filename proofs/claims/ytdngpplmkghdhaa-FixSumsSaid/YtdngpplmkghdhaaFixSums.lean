/-
  The walk of the law FixSums: it returns true, and what was there is as it was.
  Conditions: words, and a slice that reads as words.
-/
import Derived.Test.YtdngpplmkghdhaaRefApi
import Derived.Test.YtdngpplmkghdhaaGreat2
import Derived.Test.YtdngpplmkghdhaaFixKnown
import Derived.Laws.AppendOwnNone
namespace Go.Proofs.Ytdngpplmkghdhaa
open Go.RowKit Go.Shelf
set_option linter.unusedVariables false
namespace Fix

theorem own_empty (w : World) (e : TypeId) (size : Nat) (hs : 0 < size) : (w.alloc (.cells #[] e)).ownsRow w.heap.size e size (.slice (some ⟨w.heap.size, 0, none⟩) 0 0) 0 [] := by
  refine ⟨by simp, .inr ⟨w.heap.size, 0, #[], rfl, Nat.le_refl _, ?_, Nat.le_refl _, by simp [maxLen], by simp, by simp⟩⟩
  exact heap_alloc_new w _

set_option maxHeartbeats 800000 in
set_option maxRecDepth 100000 in
theorem sumsLaw (a b : Int) (A : Option Addr) (n cap : Nat) (zs : List Int) (w : World) (a0 : 0 ≤ a) (a1 : a ≤ 18446744073709551615) (b0 : 0 ≤ b) (b1 : b ≤ 18446744073709551615)
    (hi : Ints .u64 w A n zs) (hz : ∀ z ∈ zs, 0 ≤ z ∧ z ≤ 18446744073709551615) (hn : n ≤ maxLen) (hnil : A = none → cap = 0) :
    Calls Try.prog 3 #[.int .u64 a, .int .u64 b, .slice A n cap] w fun e w' => e = .returned (.bool true) ∧ Bel w w' := by
  have HW := Lib.hid (words_of hz)
  have HI := Lib.hid hi
  clear hi hz
  unfold maxLen at hn
  by_cases h40 : 40 < n
  · go_enter Try.func3, Try.ntmps3
    go_wp2_with (go_at_call 9; refine (awake _).mono ?_; rintro e w1 ⟨rfl, h1⟩)
    go_ret
    exact ⟨rfl, h1⟩
  have h40' : n ≤ 40 := by omega
  have hd40 : decide ((40 : Int) < (n : Int)) = false := decide_eq_false (by omega)
  clear h40
  obtain ⟨i0, hi, hz0, hz1, hz2⟩ := info_parts Try.info_u64
  have HE := Lib.hid (fun W : World => own_empty W 22 1 (by decide))
  /- the copy: a row of the call's own that reads as zs -/
  have HC : Hid (∀ W : World, Bel w W → ∀ (ops : Array Oper) (rest : List Oper) (o : Oper) (act : Act) (Q : Exit → Act → World → Prop), o.guard = none → o.op = .call { callee := .builtin .append, args := #[.tmp 22, .tmp 23], argTypes := #[23, 23] } →
      act.eval (.tmp 22) = .slice (some ⟨W.heap.size, 0, none⟩) 0 0 → act.eval (.tmp 23) = .slice A n cap →
      (∀ v' w', Bel w w' → w'.ownsRow W.heap.size 22 1 v' n (zs.map (Value.int .u64)) → wpList Try.prog ops Q rest (act.put o.dst v') w') → wpList Try.prog ops Q (o :: rest) act (W.alloc (.cells #[] 22))) := by
    intro W hb ops rest o act Q h1 h2 h3 h4 hK
    rcases A with _ | ad
    · have hn0 : n = 0 := by
        rcases Nat.eq_zero_or_pos n with h | h
        · exact h
        · obtain ⟨_, _, h', _⟩ := HI.out.2 h; cases h'
      subst hn0
      have hc := hnil rfl
      subst hc
      have hz : zs = [] := List.length_eq_zero_iff.1 HI.out.1
      subst hz
      exact wpList_append_own_none h1 _ _ 23 h2 W.heap.size 22 i0 1 Try.underlying23 hi _ 0 [] h3 (HE.out W) h4 (hK _ _ (hb.alloc _) (HE.out W))
    · refine wpList_append_own _ h1 _ _ 23 h2 W.heap.size 22 i0 (.int .u64 0) 1 8 Try.underlying23 hi hz0 hz1 hz2 rfl (by decide) _ 0 [] h3 (HE.out W) ad n cap (zs.map (Value.int .u64)) h4 (by simp [HI.out.1]) ?_ ?_ (by unfold maxLen; omega) (by omega) (by simp) ?_
      · intro j u hj
        have hjl : j < n := by
          have := (List.getElem?_eq_some_iff.1 hj).1
          simpa [HI.out.1] using this
        obtain ⟨b', o', e, hbw, hc⟩ := (HI.out.bel (hb.alloc (Obj.cells #[] 22))).2 (show 0 < n by omega)
        injection e with e
        subst e
        have h5 := hc j hjl
        rw [List.getElem?_map, List.getElem?_eq_getElem (by rw [HI.out.1]; exact hjl)] at hj
        rw [List.getD_eq_getElem?_getD, List.getElem?_eq_getElem (by rw [HI.out.1]; exact hjl)] at h5
        injection hj with hj
        subst hj
        unfold Addr.add
        by_cases hj0 : j = 0
        · subst hj0; exact h5
        · rw [if_neg hj0]; exact h5
      · intro u hu
        obtain ⟨z, _, rfl⟩ := List.mem_map.1 hu
        rfl
      · intro v' w' hown hgrow _
        refine hK v' w' ?_ (by simpa using hown)
        exact Below.grown (hb.alloc _) hgrow (by have := Below.size hb; simp; omega) (fun k hk => by simp [Value.ownBlock] at hk; have := Below.size hb; omega)
  clear hnil
  go_enter Try.func3, Try.ntmps3
  go_wp2_with (at_builtin; refine HC.out _ (Bel.refl _) _ _ _ _ _ rfl rfl rfl rfl ?_; intro v' w0 hb0 hown)
  obtain ⟨A', c', rfl, hints, _⟩ := Gt.ints_of_own hown
  have HI' := Lib.hid hints
  clear hints hown
  go_wp2_with fail
  refine (add a b _ a0 a1 b0 b1).mono ?_
  rintro e w1 ⟨rfl, h1⟩
  go_wp2_with fail
  refine (Ref.add a b _ a0 a1 b0 b1).mono ?_
  rintro e w' ⟨rfl, rfl⟩
  go_wp2_with fail
  refine (Ref.same _ _ _).mono ?_
  rintro e w' ⟨rfl, rfl⟩
  go_wp2_with fail
  refine (sub a b _ a0 a1 b0).mono ?_
  rintro e w' ⟨rfl, rfl⟩
  go_wp2_with fail
  refine (Ref.sub a b _ a0 a1 b0).mono ?_
  rintro e w' ⟨rfl, rfl⟩
  go_wp2_with fail
  refine (Ref.same _ _ _).mono ?_
  rintro e w' ⟨rfl, rfl⟩
  go_wp2_with fail
  refine (mul a b _ a0 a1 b0 b1).mono ?_
  rintro e w2 ⟨rfl, h2⟩
  go_wp2_with fail
  refine (Ref.mul a b _ a0 a1 b0 b1).mono ?_
  rintro e w' ⟨rfl, rfl⟩
  go_wp2_with fail
  refine (Ref.same _ _ _).mono ?_
  rintro e w' ⟨rfl, rfl⟩
  go_wp2_with fail
  refine (sum _ _ _ zs _ ((HI'.out.bel h1).bel h2) HW.out (by omega)).mono ?_
  rintro e w3 ⟨rfl, h3⟩
  go_wp2_with fail
  refine (Ref.sum _ _ _ zs _ ((((HI.out.bel hb0).bel h1).bel h2).bel h3) HW.out (by omega)).mono ?_
  rintro e w4 ⟨rfl, h4⟩
  go_wp2_with fail
  refine (Ref.same _ _ _).mono ?_
  rintro e w' ⟨rfl, rfl⟩
  have J := Lib.hid (((((HI.out.bel hb0).bel h1).bel h2).bel h3).bel h4)
  have J' := Lib.hid ((((HI'.out.bel h1).bel h2).bel h3).bel h4)
  have hall := hb0.trans (h1.trans (h2.trans (h3.trans h4)))
  clear HI HI' HC
  go_wp2_with fail
  go_loopw [12, 13] (fun o i wr => ∃ k : Nat, k ≤ n ∧ i = .int .i64 k ∧ o = .bool true ∧ Bel w4 wr) (fun _ i _ => n - (intOf i).toNat)
  case atStart => exact ⟨0, Nat.zero_le _, rfl, rfl, Bel.refl _⟩
  case round =>
    obtain ⟨k, hk, rfl, rfl, hb⟩ := hrel
    by_cases hkn : k < n
    · obtain ⟨b1', o1, rfl, hbw1, hc1⟩ := (J.out.bel hb).2 (by omega)
      obtain ⟨b2', o2, rfl, hbw2, hc2⟩ := (J'.out.bel hb).2 (by omega)
      have hx := hc1 k hkn
      have hy := hc2 k hkn
      clear hc1 hc2
      generalize zs.getD k 0 = z at hx hy
      have g3 : (k : Int) < (n : Int) := by omega
      go_wp2
      go_quiet (fail)
      go_wp2
      go_roundw
      case rel => exact ⟨k + 1, by omega, by go_num, by simp, hb.drewN _⟩
      case measure => simp [intOf]; omega
    · obtain rfl : k = n := by omega
      go_wp2_with fail
      refine (wide a b _ a0 a1 b0 b1).mono ?_
      rintro e w5 ⟨rfl, h5⟩
      go_wp2_with fail
      refine (Ref.wide a b _ a0 a1 b0 b1).mono ?_
      rintro e w' ⟨rfl, rfl⟩
      go_wp2_with fail
      refine (awake _).mono ?_
      rintro e w6 ⟨rfl, h6⟩
      go_wp2
      go_ret
      exact ⟨rfl, hall.trans (hb.trans (h5.trans h6))⟩
end Fix
end Go.Proofs.Ytdngpplmkghdhaa
