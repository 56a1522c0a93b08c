/-
  The walk of the law FixWhole: it returns true, and what was there is as it was.
  Conditions: words.
-/
import Derived.Test.YtdngpplmkghdhaaGreat5
import Derived.Test.YtdngpplmkghdhaaFixKnown
namespace Go.Proofs.Ytdngpplmkghdhaa
open Go.RowKit Go.Shelf
set_option linter.unusedVariables false
namespace Gt
theorem dig_of {zs : List Int} (h : ∀ z ∈ zs, 0 ≤ z ∧ z ≤ 65535) : Dig zs := by
  intro i
  rw [List.getD_eq_getElem?_getD]
  rcases Nat.lt_or_ge i zs.length with hi | hi
  · rw [List.getElem?_eq_getElem hi]
    exact h _ (List.getElem_mem hi)
  · rw [List.getElem?_eq_none hi]
    exact ⟨by decide, by decide⟩
theorem Gr.lit (w : World) (t : TypeId) : Gr (w.alloc (.cells #[.int .u64 0, .int .u64 0, .int .u64 0, .int .u64 0, .int .u64 1] t)) (.slice (some ⟨w.heap.size, 0, none⟩) 5 5) 18446744073709551616 5 :=
  ⟨_, _, _, [0, 0, 0, 0, 1], rfl, Ints.new_ w [0, 0, 0, 0, 1] t, dig_of (by decide), fun _ => by decide, by decide, Nat.le_refl _⟩

theorem lawGreat (a b : Int) (w : World) (a0 : 0 ≤ a) (a1 : a ≤ 18446744073709551615) (b0 : 0 ≤ b) (b1 : b ≤ 18446744073709551615) :
    Calls Try.prog 36 #[.int .u64 a, .int .u64 b] w fun e w' => ∃ v, e = .returned v ∧ Gr w' v (a * b) 9 ∧ Bel w w' := by
  go_enter Try.func36, Try.ntmps36
  go_wp2_with fail
  refine (great a _ a0 a1).mono ?_
  rintro e w1 ⟨v1, rfl, g1, h1⟩
  go_wp2_with fail
  refine (great b _ b0 b1).mono ?_
  rintro e w2 ⟨v2, rfl, g2, h2⟩
  go_wp2_with fail
  refine (times v1 v2 a b 4 4 _ (g1.bel h2) g2 (by decide) (by decide)).mono ?_
  rintro e w3 ⟨v3, rfl, g3, h3⟩
  go_wp2
  go_ret
  exact ⟨_, rfl, g3, h1.trans (h2.trans h3)⟩
end Gt

namespace Fix
open Gt

theorem cmp_sign (P Q : Int) : decide (cmpI P Q < 0) = decide (P < Q) ∧ decide (0 < cmpI P Q) = decide (Q < P) := by
  unfold cmpI
  rcases Int.lt_trichotomy P Q with h | h | h
  · rw [if_neg (by omega), if_pos h]; exact ⟨by simp [h], by simp; omega⟩
  · rw [if_pos h]; exact ⟨by simp; omega, by simp; omega⟩
  · rw [if_neg (by omega), if_neg (by omega)]; exact ⟨by simp; omega, by simp [h]⟩

/-- What the law finds of a quotient: its word and error, those of the one above, what is left. -/
structure Found (a b c N E U F R : Int) : Prop where
  n : mdN a b c = N
  e : mdE a b c = E
  u : upN a b c = U
  f : upE a b c = F
  r : restN a b c = R
  g : restE c = 0
  r0 : 0 ≤ R
  r1 : R < c
theorem found (a b c : Int) (p0 : 0 ≤ a * b) (c0 : 0 < c) :
    ∃ N E U F R : Int, Found a b c N E U F R ∧ 0 ≤ N ∧ N ≤ 18446744073709551615 ∧
      ((E = 12 ∧ decide (a * b < c * 18446744073709551616) = false ∧ F = 12) ∨
       (E = 0 ∧ decide (a * b < c * 18446744073709551616) = true ∧ N * c + R = a * b ∧ F = 12 ∧ 0 < R ∧ N = 18446744073709551615) ∨
       (E = 0 ∧ decide (a * b < c * 18446744073709551616) = true ∧ N * c + R = a * b ∧ F = 0 ∧ 0 < R ∧ N ≤ 18446744073709551614 ∧ U = N + 1) ∨
       (E = 0 ∧ decide (a * b < c * 18446744073709551616) = true ∧ N * c + R = a * b ∧ F = 0 ∧ R = 0 ∧ U = N)) := by
  have hc : ¬ c = 0 := by omega
  have r0 := Int.emod_nonneg (a * b) hc
  have r1 := Int.emod_lt_of_pos (a * b) c0
  have q0 : 0 ≤ a * b / c := Int.ediv_nonneg p0 (by omega)
  have hm := Int.emod_add_mul_ediv (a * b) c
  have hcomm : a * b / c * c = c * (a * b / c) := Int.mul_comm _ _
  have hq : (a * b < c * 18446744073709551616) ↔ a * b / c < 18446744073709551616 := by
    rw [Int.ediv_lt_iff_lt_mul c0, Int.mul_comm c]
  refine ⟨_, _, _, _, _, ⟨rfl, rfl, rfl, rfl, rfl, if_neg hc, ?_, ?_⟩, ?_, ?_, ?_⟩
  · unfold restN; rw [if_neg hc]; exact r0
  · unfold restN; rw [if_neg hc]; exact r1
  · unfold mdN; rw [if_neg hc]; exact amt0 q0
  · unfold mdN; rw [if_neg hc]; exact amt1
  · unfold mdN mdE upN upE restN upQ
    simp only [if_neg hc]
    rcases Int.lt_or_le 18446744073709551615 (a * b / c) with h | h
    · left
      refine ⟨(amt_no h).2, decide_eq_false (by omega), ?_⟩
      exact (amt_no (by split <;> omega)).2
    · right
      rw [(amt_of h).1, (amt_of h).2]
      by_cases hr : 0 < a * b % c
      · rw [if_pos hr]
        by_cases hmx : a * b / c = 18446744073709551615
        · left
          exact ⟨rfl, decide_eq_true (by omega), by omega, (amt_no (by omega)).2, hr, hmx⟩
        · right; left
          exact ⟨rfl, decide_eq_true (by omega), by omega, (amt_of (by omega)).2, hr, by omega, (amt_of (by omega)).1⟩
      · right; right
        rw [if_neg hr]
        exact ⟨rfl, decide_eq_true (by omega), by omega, (amt_of h).2, by omega, (amt_of h).1⟩

set_option maxRecDepth 100000 in
set_option maxHeartbeats 2000000 in
theorem wholeLaw (a b c d : Int) (w : World) (a0 : 0 ≤ a) (a1 : a ≤ 18446744073709551615) (b0 : 0 ≤ b) (b1 : b ≤ 18446744073709551615) (c0 : 0 ≤ c) (c1 : c ≤ 18446744073709551615) (d0 : 0 ≤ d) (d1 : d ≤ 18446744073709551615) :
    Calls Try.prog 6 #[.int .u64 a, .int .u64 b, .int .u64 c, .int .u64 d] w fun e w' => e = .returned (.bool true) ∧ Bel w w' := by
  obtain ⟨p0, p1⟩ := mul_le a0 a1 b0 b1
  obtain ⟨s1, s2⟩ := cmp_sign (a * b) (c * d)
  have hh0 := hi0 p0; have hh1 := hi1 (P := a * b) (by omega); have hl0 := lo0 (a * b); have hl1 := lo1 (a * b)
  have hsame := Lib.hid (show decide (a * b = lo (a * b) + hi (a * b) * 18446744073709551616) = true from decide_eq_true (by have := hilo (a * b); omega))
  clear p1
  by_cases hc : c = 0
  · have hcb : (c == 0) = true := beq_iff_eq.2 hc
    clear hc
    go_enter Try.func6, Try.ntmps6
    go_wp2_with fail
    refine (known _).mono ?_
    rintro e w1 ⟨rfl, h1⟩
    go_wp2_with fail
    refine (wide a b _ a0 a1 b0 b1).mono ?_
    rintro e w2 ⟨rfl, h2⟩
    go_wp2_with fail
    refine (lawGreat a b _ a0 a1 b0 b1).mono ?_
    rintro e w3 ⟨v3, rfl, g3, h3⟩
    go_wp2_with fail
    refine (Gt.great (lo (a * b)) _ hl0 hl1).mono ?_
    rintro e w4 ⟨v4, rfl, g4, h4⟩
    go_wp2_with fail
    refine (Gt.great (hi (a * b)) _ hh0 hh1).mono ?_
    rintro e w5 ⟨v5, rfl, g5, h5⟩
    go_wp2_with fail
    have gl := Gr.lit w5 22
    refine (Gt.times v5 _ _ _ 4 5 _ (g5.bel ((Bel.refl _).alloc _)) gl (by decide) (by decide)).mono ?_
    rintro e w6 ⟨v6, rfl, g6, h6⟩
    clear gl
    have h56 := ((Bel.refl w5).alloc (.cells #[.int .u64 0, .int .u64 0, .int .u64 0, .int .u64 0, .int .u64 1] 22)).trans h6
    clear h6
    go_wp2_with fail
    refine (Gt.sum v4 v6 _ _ 4 10 _ ((g4.bel h5).bel h56) g6 (by decide) (by decide)).mono ?_
    rintro e w7 ⟨v7, rfl, g7, h7⟩
    go_wp2_with fail
    refine (lawGreat _ d _ c0 c1 d0 d1).mono ?_
    rintro e w8 ⟨v8, rfl, g8, h8⟩
    go_wp2_with fail
    refine (cmp a b _ d _ a0 a1 b0 b1 c0 c1 d0 d1).mono ?_
    rintro e w9 ⟨rfl, h9⟩
    have g3' := ((((((g3.bel h4).bel h5).bel h56).bel h7).bel h8).bel h9)
    have g7' := (g7.bel h8).bel h9
    have g8' := g8.bel h9
    have ha := h1.trans (h2.trans (h3.trans (h4.trans (h5.trans (h56.trans (h7.trans (h8.trans h9)))))))
    clear g3 g4 g5 g6 g7 g8 h1 h2 h3 h4 h5 h56 h7 h8 h9
    go_wp2_with fail
    refine (Gt.same v3 v7 _ _ 9 15 _ g3' g7' (by decide) (by decide)).mono ?_
    rintro e w10 ⟨rfl, h10⟩
    rw [hsame.out]
    go_wp2_with fail
    refine (Gt.less v3 v8 _ _ 9 9 _ (g3'.bel h10) (g8'.bel h10) (by decide) (by decide)).mono ?_
    rintro e w11 ⟨rfl, h11⟩
    go_wp2_with fail
    refine (Gt.less v8 v3 _ _ 9 9 _ ((g8'.bel h10).bel h11) ((g3'.bel h10).bel h11) (by decide) (by decide)).mono ?_
    rintro e w12 ⟨rfl, h12⟩
    have g3'' := ((g3'.bel h10).bel h11).bel h12
    have hb := ha.trans (h10.trans (h11.trans h12))
    clear g3' g7' g8' ha h10 h11 h12
    go_wp2
    go_ret
    exact ⟨rfl, hb⟩
  · have hcp : 0 < c := by omega
    have hcb : (c == 0) = false := beq_eq_false_iff_ne.2 hc
    clear hc
    obtain ⟨N, E, U, F, R, FO, n0, n1, hcase⟩ := found a b c p0 hcp
    have r0 := FO.r0
    have r1 := FO.r1
    have FO := Lib.hid FO
    rcases hcase with ⟨rfl, hd, rfl⟩ | ⟨rfl, hd, he, rfl, hr, rfl⟩ | ⟨rfl, hd, he, rfl, hr, hn, rfl⟩ | ⟨rfl, hd, he, rfl, rfl, rfl⟩
    · have HD := Lib.hid hd
      clear hd
      go_enter Try.func6, Try.ntmps6
      go_wp2_with fail
      refine (known _).mono ?_
      rintro e w1 ⟨rfl, h1⟩
      go_wp2_with fail
      refine (wide a b _ a0 a1 b0 b1).mono ?_
      rintro e w2 ⟨rfl, h2⟩
      go_wp2_with fail
      refine (lawGreat a b _ a0 a1 b0 b1).mono ?_
      rintro e w3 ⟨v3, rfl, g3, h3⟩
      go_wp2_with fail
      refine (Gt.great (lo (a * b)) _ hl0 hl1).mono ?_
      rintro e w4 ⟨v4, rfl, g4, h4⟩
      go_wp2_with fail
      refine (Gt.great (hi (a * b)) _ hh0 hh1).mono ?_
      rintro e w5 ⟨v5, rfl, g5, h5⟩
      go_wp2_with fail
      have gl := Gr.lit w5 22
      refine (Gt.times v5 _ _ _ 4 5 _ (g5.bel ((Bel.refl _).alloc _)) gl (by decide) (by decide)).mono ?_
      rintro e w6 ⟨v6, rfl, g6, h6⟩
      clear gl
      have h56 := ((Bel.refl w5).alloc (.cells #[.int .u64 0, .int .u64 0, .int .u64 0, .int .u64 0, .int .u64 1] 22)).trans h6
      clear h6
      go_wp2_with fail
      refine (Gt.sum v4 v6 _ _ 4 10 _ ((g4.bel h5).bel h56) g6 (by decide) (by decide)).mono ?_
      rintro e w7 ⟨v7, rfl, g7, h7⟩
      go_wp2_with fail
      refine (lawGreat _ d _ c0 c1 d0 d1).mono ?_
      rintro e w8 ⟨v8, rfl, g8, h8⟩
      go_wp2_with fail
      refine (cmp a b _ d _ a0 a1 b0 b1 c0 c1 d0 d1).mono ?_
      rintro e w9 ⟨rfl, h9⟩
      have g3' := ((((((g3.bel h4).bel h5).bel h56).bel h7).bel h8).bel h9)
      have g7' := (g7.bel h8).bel h9
      have g8' := g8.bel h9
      have ha := h1.trans (h2.trans (h3.trans (h4.trans (h5.trans (h56.trans (h7.trans (h8.trans h9)))))))
      clear g3 g4 g5 g6 g7 g8 h1 h2 h3 h4 h5 h56 h7 h8 h9
      go_wp2_with fail
      refine (Gt.same v3 v7 _ _ 9 15 _ g3' g7' (by decide) (by decide)).mono ?_
      rintro e w10 ⟨rfl, h10⟩
      rw [hsame.out]
      go_wp2_with fail
      refine (Gt.less v3 v8 _ _ 9 9 _ (g3'.bel h10) (g8'.bel h10) (by decide) (by decide)).mono ?_
      rintro e w11 ⟨rfl, h11⟩
      go_wp2_with fail
      refine (Gt.less v8 v3 _ _ 9 9 _ ((g8'.bel h10).bel h11) ((g3'.bel h10).bel h11) (by decide) (by decide)).mono ?_
      rintro e w12 ⟨rfl, h12⟩
      have g3'' := ((g3'.bel h10).bel h11).bel h12
      have hb := ha.trans (h10.trans (h11.trans h12))
      clear g3' g7' g8' ha h10 h11 h12
      go_wp2_with fail
      refine (mulDiv' a b c _ _ _ a0 a1 b0 b1 c0 c1 FO.out.n FO.out.e).mono ?_
      rintro e w13 ⟨rfl, h13⟩
      go_wp2_with fail
      refine (mulDivUp' a b c _ _ _ a0 a1 b0 b1 c0 c1 FO.out.u FO.out.f).mono ?_
      rintro e w14 ⟨rfl, h14⟩
      go_wp2_with fail
      refine (rest' a b c _ 0 _ a0 a1 b0 b1 c0 c1 FO.out.r FO.out.g).mono ?_
      rintro e w15 ⟨rfl, h15⟩
      go_wp2_with fail
      refine (Gt.great c _ c0 c1).mono ?_
      rintro e w16 ⟨v16, rfl, g16, h16⟩
      go_wp2_with fail
      have gl := Gr.lit w16 22
      refine (Gt.times v16 _ _ _ 4 5 _ (g16.bel ((Bel.refl _).alloc _)) gl (by decide) (by decide)).mono ?_
      rintro e w17 ⟨v17, rfl, g17, h17⟩
      clear gl
      have h167 := ((Bel.refl w16).alloc (.cells #[.int .u64 0, .int .u64 0, .int .u64 0, .int .u64 0, .int .u64 1] 22)).trans h17
      clear h17
      have hb' := hb.trans (h13.trans (h14.trans (h15.trans (h16.trans h167))))
      have g3a := ((((g3''.bel h13).bel h14).bel h15).bel h16).bel h167
      clear g16 g3'' hb h13 h14 h15 h16 h167
      go_wp2_with fail
      refine (Gt.less v3 v17 _ _ 9 10 _ g3a g17 (by decide) (by decide)).mono ?_
      rintro e w18 ⟨rfl, h18⟩
      rw [HD.out]
      go_wp2
      go_ret
      exact ⟨rfl, hb'.trans h18⟩
    all_goals
      have HD := Lib.hid hd
      have HE := Lib.hid (decide_eq_true he.symm)
      clear hd he
      go_enter Try.func6, Try.ntmps6
      go_wp2_with fail
      refine (known _).mono ?_
      rintro e w1 ⟨rfl, h1⟩
      go_wp2_with fail
      refine (wide a b _ a0 a1 b0 b1).mono ?_
      rintro e w2 ⟨rfl, h2⟩
      go_wp2_with fail
      refine (lawGreat a b _ a0 a1 b0 b1).mono ?_
      rintro e w3 ⟨v3, rfl, g3, h3⟩
      go_wp2_with fail
      refine (Gt.great (lo (a * b)) _ hl0 hl1).mono ?_
      rintro e w4 ⟨v4, rfl, g4, h4⟩
      go_wp2_with fail
      refine (Gt.great (hi (a * b)) _ hh0 hh1).mono ?_
      rintro e w5 ⟨v5, rfl, g5, h5⟩
      go_wp2_with fail
      have gl := Gr.lit w5 22
      refine (Gt.times v5 _ _ _ 4 5 _ (g5.bel ((Bel.refl _).alloc _)) gl (by decide) (by decide)).mono ?_
      rintro e w6 ⟨v6, rfl, g6, h6⟩
      clear gl
      have h56 := ((Bel.refl w5).alloc (.cells #[.int .u64 0, .int .u64 0, .int .u64 0, .int .u64 0, .int .u64 1] 22)).trans h6
      clear h6
      go_wp2_with fail
      refine (Gt.sum v4 v6 _ _ 4 10 _ ((g4.bel h5).bel h56) g6 (by decide) (by decide)).mono ?_
      rintro e w7 ⟨v7, rfl, g7, h7⟩
      go_wp2_with fail
      refine (lawGreat _ d _ c0 c1 d0 d1).mono ?_
      rintro e w8 ⟨v8, rfl, g8, h8⟩
      go_wp2_with fail
      refine (cmp a b _ d _ a0 a1 b0 b1 c0 c1 d0 d1).mono ?_
      rintro e w9 ⟨rfl, h9⟩
      have g3' := ((((((g3.bel h4).bel h5).bel h56).bel h7).bel h8).bel h9)
      have g7' := (g7.bel h8).bel h9
      have g8' := g8.bel h9
      have ha := h1.trans (h2.trans (h3.trans (h4.trans (h5.trans (h56.trans (h7.trans (h8.trans h9)))))))
      clear g3 g4 g5 g6 g7 g8 h1 h2 h3 h4 h5 h56 h7 h8 h9
      go_wp2_with fail
      refine (Gt.same v3 v7 _ _ 9 15 _ g3' g7' (by decide) (by decide)).mono ?_
      rintro e w10 ⟨rfl, h10⟩
      rw [hsame.out]
      go_wp2_with fail
      refine (Gt.less v3 v8 _ _ 9 9 _ (g3'.bel h10) (g8'.bel h10) (by decide) (by decide)).mono ?_
      rintro e w11 ⟨rfl, h11⟩
      go_wp2_with fail
      refine (Gt.less v8 v3 _ _ 9 9 _ ((g8'.bel h10).bel h11) ((g3'.bel h10).bel h11) (by decide) (by decide)).mono ?_
      rintro e w12 ⟨rfl, h12⟩
      have g3'' := ((g3'.bel h10).bel h11).bel h12
      have hb := ha.trans (h10.trans (h11.trans h12))
      clear g3' g7' g8' ha h10 h11 h12
      go_wp2_with fail
      refine (mulDiv' a b c _ _ _ a0 a1 b0 b1 c0 c1 FO.out.n FO.out.e).mono ?_
      rintro e w13 ⟨rfl, h13⟩
      go_wp2_with fail
      refine (mulDivUp' a b c _ _ _ a0 a1 b0 b1 c0 c1 FO.out.u FO.out.f).mono ?_
      rintro e w14 ⟨rfl, h14⟩
      go_wp2_with fail
      refine (rest' a b c _ 0 _ a0 a1 b0 b1 c0 c1 FO.out.r FO.out.g).mono ?_
      rintro e w15 ⟨rfl, h15⟩
      go_wp2_with fail
      refine (Gt.great c _ c0 c1).mono ?_
      rintro e w16 ⟨v16, rfl, g16, h16⟩
      go_wp2_with fail
      have gl := Gr.lit w16 22
      refine (Gt.times v16 _ _ _ 4 5 _ (g16.bel ((Bel.refl _).alloc _)) gl (by decide) (by decide)).mono ?_
      rintro e w17 ⟨v17, rfl, g17, h17⟩
      clear gl
      have h167 := ((Bel.refl w16).alloc (.cells #[.int .u64 0, .int .u64 0, .int .u64 0, .int .u64 0, .int .u64 1] 22)).trans h17
      clear h17
      have hb' := hb.trans (h13.trans (h14.trans (h15.trans (h16.trans h167))))
      have g3a := ((((g3''.bel h13).bel h14).bel h15).bel h16).bel h167
      clear g16 g3'' hb h13 h14 h15 h16 h167
      go_wp2_with fail
      refine (Gt.less v3 v17 _ _ 9 10 _ g3a g17 (by decide) (by decide)).mono ?_
      rintro e w18 ⟨rfl, h18⟩
      rw [HD.out]
      have g3b := g3a.bel h18
      go_wp2_with fail
      refine (lawGreat _ c _ n0 n1 c0 c1).mono ?_
      rintro e w19 ⟨v19, rfl, g19, h19⟩
      go_wp2_with fail
      refine (Gt.great _ _ r0 (by omega)).mono ?_
      rintro e w20 ⟨v20, rfl, g20, h20⟩
      go_wp2_with fail
      refine (Gt.sum v19 v20 _ _ 9 4 _ (g19.bel h20) g20 (by decide) (by decide)).mono ?_
      rintro e w21 ⟨v21, rfl, g21, h21⟩
      go_wp2_with fail
      refine (Gt.same v3 v21 _ _ 9 14 _ (((g3b.bel h19).bel h20).bel h21) g21 (by decide) (by decide)).mono ?_
      rintro e w22 ⟨rfl, h22⟩
      rw [HE.out]
      go_wp2
      go_ret
      exact ⟨rfl, hb'.trans (h18.trans (h19.trans (h20.trans (h21.trans h22))))⟩
end Fix
end Go.Proofs.Ytdngpplmkghdhaa
