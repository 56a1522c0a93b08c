/-
  Texts of this claim, put together: Ho31, ShM, Ho32, Ho33. What each one says, and under which conditions, stands ahead of it.
-/
import Derived.Test.YtneajcoiemkfbaaGreatCI
import Derived.Test.YtneajcoiemkfbaaGreatCD
import Derived.Test.YtneajcoiemkfbaaGreatCK

section
/-
  A class and a position are set anew: a holding that may be stays one. No program.
-/
namespace Go.Proofs.YtneajcoiemkfbaaGreat
open Go.RowKit Go.Shelf
set_option linter.unusedVariables false
namespace Ho

theorem get_eql {o : R6 → R6 → Int} (O : Od o) {x y : R6} (h : o x y = 0) : ∀ l : List R6, get o l x = get o l y
  | [] => rfl
  | z :: l => by
    rw [get_cons, get_cons, O.eql2 z h, get_eql O h l]
theorem put_out {o : R6 → R6 → Int} (O : Od o) {l : List R6} {x : R6} {s : Bool} {r : R6} (hs : Srt o l) (h : r ∈ put o l x s) : (r = x ∧ s = true) ∨ (r ∈ l ∧ ¬ o r x = 0) := by
  by_cases e : o r x = 0
  · have hg := get_mem O (put_srt O hs (x := x) (s := s)) h e
    rw [get_put O l x x s hs, if_pos (O.self x)] at hg
    cases s with
    | false => cases hg
    | true => injection hg with hg; exact .inl ⟨hg.symm, rfl⟩
  · rcases put_mem h with h1 | h1
    · obtain ⟨rfl, _⟩ := h1
      exact absurd (O.self _) e
    · exact .inr ⟨h1, e⟩
theorem put_in {o : R6 → R6 → Int} (O : Od o) {l : List R6} {x : R6} {s : Bool} {r : R6} (hs : Srt o l) (h : r ∈ l) (e : ¬ o r x = 0) : r ∈ put o l x s := by
  have hg := get_put O l x r s hs
  rw [if_neg (fun k => e (O.sym k)), get_mem O hs h (O.self r)] at hg
  exact (get_key hg).2
theorem stp_of {p q : R6} (h : ordP p q = 0) : stp p = stp q := by
  obtain ⟨a, b, c, d, e, f⟩ := p
  obtain ⟨a', b', c', d', e', f'⟩ := q
  obtain ⟨rfl, rfl, rfl, rfl, rfl⟩ := same_p h
  rfl
theorem sumS_eql (ps : List R6) {x y : R6} (h : ordC x y = 0) : sumS ps x = sumS ps y := by
  unfold sumS
  congr 1
  refine List.map_congr_left fun p _ => ?_
  rw [odC.eql2 (stp p) h]
theorem sumS_put (ps : List R6) (q : R6) (s : Bool) (x : R6) : sumS (put ordP ps q s) x = sumS ps x - (if ordC (stp q) x = 0 then shs ps q else 0) + (if s then (if ordC (stp q) x = 0 then shr q else 0) else 0) := by
  unfold sumS
  rw [put_sum ordP (fun p => if ordC (stp p) x = 0 then shr p else 0) ps q s]
  congr 2
  unfold shs
  cases hg : get ordP ps q with
  | none => simp
  | some p =>
    have e := stp_of (get_key hg).1
    simp [e]
theorem sumS_none {ps : List R6} {x : R6} (h : ∀ p ∈ ps, ¬ ordC (stp p) x = 0) : sumS ps x = 0 := by
  induction ps with
  | nil => rfl
  | cons p l ih =>
    have h1 := ih fun y hy => h y (List.mem_cons_of_mem _ hy)
    show (if ordC (stp p) x = 0 then shr p else 0) + sumS l x = 0
    rw [if_neg (h p List.mem_cons_self), h1]
    rfl
theorem sumS_ge {ps : List R6} (hp : ∀ p ∈ ps, 0 ≤ shr p) {x p : R6} (h : p ∈ ps) (e : ordC (stp p) x = 0) : shr p ≤ sumS ps x := by
  induction ps with
  | nil => cases h
  | cons y l ih =>
    have h0 : 0 ≤ sumS l x := by
      clear ih h e
      have hl : ∀ p ∈ l, 0 ≤ shr p := fun p h => hp p (List.mem_cons_of_mem _ h)
      clear hp
      induction l with
      | nil => exact Int.le_refl _
      | cons z l ih =>
        have h1 := ih fun p h => hl p (List.mem_cons_of_mem _ h)
        have h2 := hl z List.mem_cons_self
        show 0 ≤ (if ordC (stp z) x = 0 then shr z else 0) + sumS l x
        split <;> omega
    show shr p ≤ (if ordC (stp y) x = 0 then shr y else 0) + sumS l x
    rcases List.mem_cons.1 h with rfl | h
    · rw [if_pos e]; omega
    · have h1 := ih (fun z hz => hp z (List.mem_cons_of_mem _ hz)) h
      have h2 := hp y List.mem_cons_self
      split <;> omega
/-- The shares of a class are those of its positions, whether there is such a class or not. -/
theorem Ok.sum {cs ps : List R6} (h : Ok cs ps) (s : R6) : sumS ps s = polS cs s := by
  unfold polS
  cases hg : get ordC cs s with
  | none => exact sumS_none fun p hp e => (h.po p hp).2.2.2 (by rw [get_eql odC e]; exact hg)
  | some r =>
    obtain ⟨e, hr⟩ := get_key hg
    rw [← sumS_eql ps e]
    exact h.add r hr
theorem shs_eql (ps : List R6) {p q : R6} (h : ordP p q = 0) : shs ps p = shs ps q := by
  unfold shs
  rw [get_eql odP h]
theorem shs_sum {ps : List R6} (hp : ∀ p ∈ ps, 0 ≤ shr p) (q : R6) : shs ps q ≤ sumS ps (stp q) ∧ 0 ≤ shs ps q := by
  unfold shs
  cases hg : get ordP ps q with
  | none =>
    refine ⟨?_, Int.le_refl _⟩
    show 0 ≤ _
    clear hg
    induction ps with
    | nil => exact Int.le_refl _
    | cons z l ih =>
      have h1 := ih fun p h => hp p (List.mem_cons_of_mem _ h)
      have h2 := hp z List.mem_cons_self
      show 0 ≤ (if ordC (stp z) (stp q) = 0 then shr z else 0) + sumS l (stp q)
      split <;> omega
  | some r =>
    obtain ⟨e, hr⟩ := get_key hg
    exact ⟨sumS_ge hp hr (by rw [stp_of e]; exact odC.self _), hp r hr⟩
theorem sumT_put (cs : List R6) (x : R6) (s : Bool) : sumT (put ordC cs x s) = sumT cs - polT cs x + (if s then tok x else 0) := by
  unfold sumT
  rw [put_sum ordC tok cs x s]
  congr 2
  unfold polT
  cases get ordC cs x <;> rfl
theorem put_len {o : R6 → R6 → Int} (l : List R6) (x : R6) (s : Bool) : (put o l x s).length ≤ l.length + 1 := by
  rw [put_at]
  have := pos_le o l x
  simp only [List.length_append, List.length_take, List.length_drop]
  split <;> (simp; omega)
theorem pol_at0 {cs ps : List R6} (h : Ok cs ps) (s : R6) : Sh.chk (polT cs s) (polS cs s) = 0 := by
  unfold polT polS
  cases hg : get ordC cs s with
  | none => rfl
  | some r =>
    obtain ⟨_, hr⟩ := get_key hg
    have := (h.cl r hr).2.1
    obtain ⟨a, b, c, d, e, f⟩ := r
    exact this
theorem set_ok {cs ps : List R6} (h : Ok cs ps) (hp : ∀ p ∈ ps, 0 ≤ shr p) {o a b c d T S x : Int} (hck : Sm.ck a b c d = 0) (ho : 0 ≤ o ∧ o ≤ 63) (hchk : Sh.chk T S = 0) (x0 : 0 ≤ x)
    (hS : S = polS cs (a, b, c, d, 0, 0) - shs ps (o, a, b, c, d, 0) + x) (hlen : (setC cs a b c d T S).length ≤ 1024) (htot : sumT cs - polT cs (a, b, c, d, 0, 0) + T ≤ 4611686018427387904) : Ok (setC cs a b c d T S) (setP ps o a b c d x) := by
  have hsum := h.sum (a, b, c, d, 0, 0)
  obtain ⟨hle, h0⟩ := shs_sum hp (o, a, b, c, d, 0)
  rw [show stp (o, a, b, c, d, 0) = (a, b, c, d, 0, 0) from rfl, hsum] at hle
  have ekey : ordC (a, b, c, d, T, S) (a, b, c, d, 0, 0) = 0 := odC.self (a, b, c, d, 0, 0)
  have eq : ordP (o, a, b, c, d, x) (o, a, b, c, d, 0) = 0 := odP.self (o, a, b, c, d, 0)
  have hsq : shs ps (o, a, b, c, d, x) = shs ps (o, a, b, c, d, 0) := shs_eql ps eq
  have hpt : polT cs (a, b, c, d, T, S) = polT cs (a, b, c, d, 0, 0) := by unfold polT; rw [get_eql odC ekey]
  have hst : stp (o, a, b, c, d, x) = (a, b, c, d, 0, 0) := rfl
  have hsn : sumS ps (a, b, c, d, T, S) = polS cs (a, b, c, d, 0, 0) := (sumS_eql ps ekey).trans hsum
  refine ⟨hlen, put_srt odC h.sc, fun r hr => ?_, ?_, put_srt odP h.sp, fun r hr => ?_, fun r hr => ?_⟩
  · rcases put_out odC h.sc hr with ⟨rfl, hs⟩ | ⟨hr, _⟩
    · exact ⟨hck, hchk, by simp only [Bool.not_eq_true', decide_eq_false_iff_not] at hs; exact hs⟩
    · exact h.cl r hr
  · unfold setC
    rw [sumT_put, hpt]
    by_cases k : T = 0 ∧ S = 0
    · rw [if_neg (by simp [k])]; omega
    · rw [if_pos (by simpa only [Bool.not_eq_true', decide_eq_false_iff_not] using k)]
      show _ + T ≤ _
      omega
  · rcases put_out odP h.sp hr with ⟨rfl, hs⟩ | ⟨hr, hne⟩
    · have hx : 0 < x := of_decide_eq_true hs
      refine ⟨ho.1, ho.2, by show x ≠ 0; omega, ?_⟩
      rw [hst]
      unfold setC
      rw [get_put odC _ _ _ _ h.sc, if_pos ekey, if_pos (by
        simp only [Bool.not_eq_true', decide_eq_false_iff_not]
        rintro ⟨_, rfl⟩
        omega)]
      intro k; cases k
    · refine ⟨(h.po r hr).1, (h.po r hr).2.1, (h.po r hr).2.2.1, ?_⟩
      unfold setC
      rw [get_put odC _ _ _ _ h.sc]
      by_cases k : ordC (a, b, c, d, T, S) (stp r) = 0
      · rw [if_pos k, if_pos (by
          simp only [Bool.not_eq_true', decide_eq_false_iff_not]
          rintro ⟨_, rfl⟩
          have e1 := sumS_put ps (o, a, b, c, d, x) false (a, b, c, d, 0, 0)
          rw [hst, if_pos (odC.self _), hsq, hsum] at e1
          have e2 := sumS_ge (ps := put ordP ps (o, a, b, c, d, x) false) (fun p hp' => by
            rcases put_out odP h.sp hp' with ⟨_, hs⟩ | ⟨hm, _⟩
            · cases hs
            · exact hp p hm) (put_in odP h.sp hr hne) (x := (a, b, c, d, 0, 0)) (odC.sym k)
          have e3 := hp r hr
          have e4 := (h.po r hr).2.2.1
          simp only [if_false, Bool.false_eq_true] at e1
          omega)]
        intro k; cases k
      · rw [if_neg k]
        exact (h.po r hr).2.2.2
  · rcases put_out odC h.sc hr with ⟨rfl, hs⟩ | ⟨hr, hne⟩
    · unfold setP
      rw [sumS_put, hst, if_pos (odC.sym ekey), if_pos (odC.sym ekey), hsq, hsn]
      show _ = S
      by_cases k : 0 < x
      · rw [if_pos (decide_eq_true k)]
        show _ + x = S
        omega
      · rw [if_neg (by simpa using k)]; omega
    · have hne' : ¬ ordC (a, b, c, d, 0, 0) r = 0 := fun k => hne (odC.sym k)
      unfold setP
      rw [sumS_put, hst, if_neg hne', if_neg hne', h.add r hr]
      split <;> omega
end Ho
end Go.Proofs.YtneajcoiemkfbaaGreat
end

section
/-
  Pools that may be: what a Join, a Leave and a Cut make of one; fairness. No walk.
-/
namespace Go.Proofs.YtneajcoiemkfbaaGreat
open Go.RowKit Go.Shelf
set_option linter.unusedVariables false
namespace Sh
open Fix (partN partE)

theorem chk00 {T S : Int} (h : ¬ S < T) (h2 : ¬ 4611686018427387904 < T) (h3 : ¬ T = 0 ∨ S = 0) : chk T S = 0 := by unfold chk; rw [if_neg h, if_neg h2, if_neg (by omega)]

theorem cut_ways (T S x : Int) : (¬ chk T S = 0 → cutE T S x = chk T S) ∧ (chk T S = 0 → cutE T S x = partE T x) := by
  refine ⟨fun h => ?_, fun h => ?_⟩
  · unfold cutE fE; rw [if_neg h]
  · unfold cutE fE fE fE; simp [h]
    intro h2; exact h2.symm
theorem cut_yes {T S a : Int} (h : cutE T S a = 0) : cutT T S a = T - partN T a ∧ cutN T S a = partN T a ∧ (partN T a = T → cutS T S a = 0) ∧ (¬ partN T a = T → cutS T S a = S) := ⟨if_pos h, if_pos h, fun k => if_neg fun j => j.2 k, fun k => if_pos ⟨h, k⟩⟩

/-- A pool that may be. -/
def Ok (T S : Int) : Prop := 0 ≤ T ∧ T ≤ 4611686018427387904 ∧ T ≤ S ∧ S ≤ 18446744073709551615 ∧ (T = 0 → S = 0)
theorem Ok.chk {T S : Int} (h : Ok T S) : chk T S = 0 := by
  obtain ⟨h1, h2, h3, h4, h5⟩ := h
  refine chk00 (by omega) (by omega) ?_
  by_cases e : T = 0
  · exact .inr (h5 e)
  · exact .inl e
/-- What a cut leaves of the shares. -/
def cq (T S b : Int) : Int := if partN T b = T then 0 else S
theorem cut_is {T S b : Int} (h : Ok T S) (b0 : 0 ≤ b) (b1 : b ≤ 1000000000) : cutE T S b = 0 ∧ cutT T S b = T - partN T b ∧ cutS T S b = cq T S b ∧ cutN T S b = partN T b ∧ 0 ≤ partN T b ∧ partN T b ≤ T ∧ Ok (T - partN T b) (cq T S b) := by
  obtain ⟨e1, e2, e3, e4⟩ := part_of' (a := T) (p := b) h.1 (by have := h.2.1; omega) b0 b1
  have hc : cutE T S b = 0 := by rw [(cut_ways T S b).2 h.chk]; exact e2
  obtain ⟨y1, y2, y3, y4⟩ := cut_yes hc
  rw [← e1] at e3 e4
  have hs : cutS T S b = cq T S b := by
    unfold cq
    by_cases e : partN T b = T
    · rw [if_pos e, y3 e]
    · rw [if_neg e, y4 e]
  refine ⟨hc, y1, hs, y2, e3, e4, ?_⟩
  obtain ⟨h1, h2, h3, h4, h5⟩ := h
  unfold cq
  split
  · exact ⟨by omega, by omega, by omega, by omega, fun _ => rfl⟩
  · exact ⟨by omega, by omega, by omega, by omega, fun e => by omega⟩
theorem mul_lt_of {o D L M : Int} (o0 : 0 ≤ o) (oL : o < L) (D0 : 0 ≤ D) (DM : D < M) : o * D < L * M := by
  have h1 : o * D ≤ (L - 1) * D := Int.mul_le_mul_of_nonneg_right (by omega) D0
  have h2 : (L - 1) * D ≤ (L - 1) * (M - 1) := Int.mul_le_mul_of_nonneg_left (by omega) (by omega)
  have h3 : (L - 1) * (M - 1) = L * M - L - M + 1 := by rw [Int.sub_mul, Int.mul_sub, Int.mul_sub]; omega
  omega
/-- Others gain less than 1, and lose nothing. -/
def Fair (T S A B : Int) : Prop := ∀ o, 0 ≤ o → o < S → o < B → o * T * B ≤ o * A * S ∧ o * A * S < o * T * B + S * B
theorem fair_of {T S A B D : Int} (e : A * S = T * B + D) (D0 : 0 ≤ D) (h : ∀ o, 0 ≤ o → o < S → o < B → o * D < S * B) : Fair T S A B := by
  intro o o0 oS oB
  have h1 : o * A * S = o * T * B + o * D := by rw [Int.mul_assoc, e, Int.mul_add, Int.mul_assoc]
  have h2 := h o o0 oS oB
  have h3 : 0 ≤ o * D := Int.mul_nonneg o0 D0
  exact ⟨by omega, by omega⟩
theorem div_rest {a b : Int} (hb : 0 < b) : a = a / b * b + a % b ∧ 0 ≤ a % b ∧ a % b < b := by
  have h := Int.mul_ediv_add_emod a b
  rw [Int.mul_comm] at h
  exact ⟨h.symm, Int.emod_nonneg a (by omega), Int.emod_lt_of_pos a hb⟩
/-- A Join is fair, and its shares are worth the amount within 1. -/
theorem join_fair {T S a : Int} (h : Ok T S) (hS : ¬ S = 0) (ha : 0 < a) (hj : joiE T S a = 0) :
    Fair T S (T + a) (S + priN T S a) ∧ priN T S a * (T + a) ≤ a * (S + priN T S a) ∧ a * (S + priN T S a) < priN T S a * (T + a) + (S + priN T S a) ∧ 0 ≤ priN T S a := by
  obtain ⟨h1, h2, h3, h4, h5⟩ := h
  have hT : 0 < T := by
    by_cases e : T = 0
    · exact absurd (h5 e) hS
    · omega
  obtain ⟨_, _, hp, _, _⟩ := joi_ok hj
  have e : priN T S a = a * S / T := by
    rw [show priN T S a = pri T S a from if_pos hp]
    exact if_neg hS
  rw [e]
  have p0 : 0 ≤ a * S / T := Int.ediv_nonneg (Int.mul_nonneg (by omega) (by omega)) (by omega)
  obtain ⟨g1, g2, g3⟩ := div_rest (a := a * S) hT
  generalize a * S / T = P at *
  generalize a * S % T = D at *
  have e1 : (T + a) * S = T * (S + P) + D := by
    rw [Int.add_mul, Int.mul_add, g1, Int.mul_comm P T]; omega
  refine ⟨fair_of e1 g2 fun o o0 oS oB => ?_, ?_, ?_, p0⟩
  · have := mul_lt_of o0 oS g2 (show D < S + P by omega)
    exact this
  · rw [Int.mul_add, Int.mul_add, g1, Int.mul_comm a P]; omega
  · rw [Int.mul_add, Int.mul_add, g1, Int.mul_comm a P]; omega
/-- A Leave is fair. -/
theorem leave_fair {T S x : Int} (h : Ok T S) (x0 : 0 ≤ x) (hl : leaE T S x = 0) (hB : 0 < S - x) : Fair T S (T - valN T S x) (S - x) := by
  obtain ⟨h1, h2, h3, h4, h5⟩ := h
  have hS : 0 < S := by omega
  obtain ⟨hv, _, _, _, _⟩ := lea_ok h1 x0 hl
  rw [show valN T S x = x * T / S from if_pos hv]
  obtain ⟨g1, g2, g3⟩ := div_rest (a := x * T) hS
  generalize x * T / S = V at *
  generalize x * T % S = D at *
  have e1 : (T - V) * S = T * (S - x) + D := by
    rw [Int.sub_mul, Int.mul_sub, Int.mul_comm T x, g1]; omega
  refine fair_of e1 g2 fun o o0 oS oB => ?_
  have := mul_lt_of o0 oB g2 g3
  rw [Int.mul_comm S (S - x)]
  exact this
theorem join_keeps {T S a : Int} (h : Ok T S) (ha : 0 ≤ a) (hj : joiE T S a = 0) :
    Ok (T + a) (S + priN T S a) ∧ a ≤ priN T S a := by
  obtain ⟨h1, h2, h3, h4, h5⟩ := h
  obtain ⟨_, j0, hp, j1, j2⟩ := joi_ok hj
  have e : priN T S a = pri T S a := if_pos hp
  have hle : a ≤ priN T S a := by
    rw [e]
    unfold pri
    split
    · exact Int.le_refl _
    · rename_i hS
      have hT : 0 < T := by
        by_cases e : T = 0
        · exact absurd (h5 e) hS
        · omega
      refine Int.le_ediv_of_mul_le hT ?_
      exact Int.mul_le_mul_of_nonneg_left h3 ha
  exact ⟨⟨by omega, j1, by omega, j2, fun e => by omega⟩, hle⟩
theorem leave_keeps {T S x : Int} (h : Ok T S) (x0 : 0 ≤ x) (hl : leaE T S x = 0) :
    Ok (T - valN T S x) (S - x) ∧ 0 < valN T S x ∧ valN T S x ≤ x ∧ valN T S x ≤ T ∧ x ≤ S := by
  obtain ⟨h1, h2, h3, h4, h5⟩ := h
  obtain ⟨hv, _, hx, v0, v1⟩ := lea_ok h1 x0 hl
  have hT : 0 < T := by omega
  have hS : 0 < S := by omega
  have e : valN T S x = x * T / S := if_pos hv
  rw [e] at v0 v1 ⊢
  obtain ⟨g1, g2, g3⟩ := div_rest (a := x * T) hS
  have hvx : x * T / S ≤ x := Int.ediv_le_of_le_mul hS (Int.mul_le_mul_of_nonneg_left h3 x0)
  generalize x * T / S = V at *
  generalize x * T % S = D at *
  have k1 : T - V ≤ S - x := by
    by_cases hc : T - V ≤ S - x
    · exact hc
    · -- then (T - V - 1) ≥ S - x
      have m1 : (S - x) * T ≤ (S - x) * S := Int.mul_le_mul_of_nonneg_left h3 (by omega)
      have m2 : (S - x) * S ≤ (T - V - 1) * S := Int.mul_le_mul_of_nonneg_right (by omega) (by omega)
      have m3 : (S - x) * T = S * T - x * T := Int.sub_mul _ _ _
      have m4 : (T - V - 1) * S = T * S - V * S - S := by rw [Int.sub_mul, Int.sub_mul, Int.one_mul]
      have m5 : S * T = T * S := Int.mul_comm _ _
      omega
  have k2 : T - V = 0 → S - x = 0 := fun e0 => by
    obtain rfl : V = T := by omega
    by_cases hc : S - x = 0
    · exact hc
    · have m1 : x * V + V ≤ S * V := by
        have := Int.mul_le_mul_of_nonneg_right (show x + 1 ≤ S by omega) (show 0 ≤ V by omega)
        rw [Int.add_mul, Int.one_mul] at this
        exact this
      have m5 : S * V = V * S := Int.mul_comm _ _
      omega
  exact ⟨⟨by omega, by omega, k1, by omega, k2⟩, v0, hvx, v1, hx⟩
end Sh
end Go.Proofs.YtneajcoiemkfbaaGreat
end

section
/-
  What Join, Leave and Cut make of a holding that may be may be; what becomes of its tokens. No program.
-/
namespace Go.Proofs.YtneajcoiemkfbaaGreat
open Go.RowKit Go.Shelf
set_option linter.unusedVariables false
namespace Ho

theorem chk_0 {T S : Int} (h : Sh.chk T S = 0) : T ≤ S ∧ T ≤ 4611686018427387904 ∧ (T = 0 → S = 0) := by
  unfold Sh.chk at h
  by_cases h1 : S < T
  · rw [if_pos h1] at h; cases h
  · rw [if_neg h1] at h
    by_cases h2 : 4611686018427387904 < T
    · rw [if_pos h2] at h; cases h
    · rw [if_neg h2] at h
      by_cases h3 : T = 0 ∧ ¬ S = 0
      · rw [if_pos h3] at h; cases h
      · refine ⟨by omega, by omega, fun k => ?_⟩
        by_cases k2 : S = 0
        · exact k2
        · exact absurd ⟨k, k2⟩ h3
theorem pol_ok {cs ps : List R6} (h : Ok cs ps) (hw : ∀ r ∈ cs, Wd r) (s : R6) : Sh.Ok (polT cs s) (polS cs s) := by
  obtain ⟨h1, h2, h3⟩ := chk_0 (pol_at0 h s)
  obtain ⟨t0, _, s0, s1⟩ := pol_words hw s
  exact ⟨t0, h2, h1, s1, h3⟩
theorem pol_eql (cs : List R6) {x y : R6} (h : ordC x y = 0) : polT cs x = polT cs y ∧ polS cs x = polS cs y := by
  unfold polT polS
  rw [get_eql odC h]
  exact ⟨rfl, rfl⟩
theorem pol_none {cs ps : List R6} (h : Ok cs ps) (s : R6) : inB ordC cs s = false ↔ polT cs s = 0 ∧ polS cs s = 0 := by
  unfold inB polT polS
  cases hg : get ordC cs s with
  | none => simp
  | some r => simpa using (h.cl r (get_key hg).2).2.2
theorem put_length {o : R6 → R6 → Int} : ∀ (l : List R6) (x : R6) (s : Bool), (put o l x s).length + (if inB o l x then 1 else 0) = l.length + (if s then 1 else 0)
  | [], x, s => by cases s <;> rfl
  | y :: l, x, s => by
    have ih := put_length (o := o) l x s
    unfold inB at ih ⊢
    rw [get_cons]
    unfold put
    by_cases h1 : o y x < 0
    · rw [if_pos h1, if_pos h1, List.length_cons, List.length_cons]; omega
    · rw [if_neg h1, if_neg h1]
      by_cases h2 : o y x = 0
      · rw [if_pos h2, if_pos h2]; cases s <;> simp
      · rw [if_neg h2, if_neg h2]; cases s <;> simp
theorem put_words {o : R6 → R6 → Int} {P : R6 → Prop} {l : List R6} {x : R6} {s : Bool} (h : ∀ r ∈ l, P r) (hx : s = true → P x) : ∀ r ∈ put o l x s, P r := fun r hr => by
  rcases put_mem hr with ⟨rfl, hs⟩ | hr
  · exact hx hs
  · exact h r hr
/-- A holding that may be, of words. -/
structure Hd6 (cs ps : List R6) : Prop where
  ok : Ok cs ps
  wc : ∀ r ∈ cs, Wd r
  wp : Wp ps
theorem Hd6.nil_ : Hd6 [] [] := by
  refine ⟨(ok_iff [] []).1 (by decide), ?_, ?_⟩
  · intro r h; cases h
  · intro r h; cases h
theorem Hd6.shs {cs ps : List R6} (h : Hd6 cs ps) (o a b c d : Int) : 0 ≤ shs ps (o, a, b, c, d, 0) ∧ shs ps (o, a, b, c, d, 0) ≤ polS cs (a, b, c, d, 0, 0) := ⟨(shs_words h.wp _).1, shs_le h.ok h.wc h.wp o a b c d⟩

theorem bJE_0 {o a b d e T S : Int} {n : Nat} {tot x : Int} (h : bJE o a b d e T S n tot x = 0) : (0 ≤ o ∧ o ≤ 63) ∧ Sm.ck a b d e = 0 ∧ ¬ ((T = 0 ∧ S = 0) ∧ n = 1024) ∧ Sh.joiE T S x = 0 ∧ tot + x ≤ 4611686018427387904 := by
  unfold bJE at h
  obtain ⟨h1, h⟩ := fE_cons.1 h
  obtain ⟨h2, h⟩ := fE_cons.1 h
  obtain ⟨h3, h⟩ := fE_cons.1 h
  obtain ⟨h4, _⟩ := fE_cons.1 h
  have k1 : ¬ (¬ (0 ≤ o ∧ o ≤ 63) ∨ Sm.ck a b d e ≠ 0) := fun k => by rw [if_pos k] at h1; cases h1
  have k2 : ¬ ((T = 0 ∧ S = 0) ∧ n = 1024) := fun k => by rw [if_pos k] at h2; cases h2
  have k4 : ¬ 4611686018427387904 < tot + x := fun k => by rw [if_pos k] at h4; cases h4
  refine ⟨?_, ?_, k2, h3, by omega⟩
  · by_cases k : 0 ≤ o ∧ o ≤ 63
    · exact k
    · exact absurd (.inl k) k1
  · by_cases k : Sm.ck a b d e = 0
    · exact k
    · exact absurd (.inr k) k1
theorem bLE_0 {T S s x : Int} (h : bLE T S s x = 0) : ¬ s = 0 ∧ x ≤ s ∧ Sh.leaE T S x = 0 := by
  obtain ⟨h1, h2, h3⟩ := bLE_ways T S s x
  by_cases k : s = 0
  · rw [h1 k] at h; cases h
  · by_cases k2 : s < x
    · rw [h2 k k2] at h; cases h
    · rw [h3 k k2] at h
      exact ⟨k, by omega, h⟩
/-- A Join of what may be. -/
theorem join_ok {cs ps : List R6} (h : Hd6 cs ps) {o a b c d x T S : Int} (hT : polT cs (a, b, c, d, 0, 0) = T) (hS : polS cs (a, b, c, d, 0, 0) = S) (x0 : 0 ≤ x) (hj : bJE o a b c d T S cs.length (sumT cs) x = 0) :
    Hd6 (setC cs a b c d (Sh.joiT T S x) (Sh.joiS T S x)) (setP ps o a b c d (shs ps (o, a, b, c, d, 0) + Sh.joiN T S x)) ∧ sumT (setC cs a b c d (Sh.joiT T S x) (Sh.joiS T S x)) = sumT cs + x ∧ (setC cs a b c d (Sh.joiT T S x) (Sh.joiS T S x)).length ≤ cs.length + 1 ∧ (setP ps o a b c d (shs ps (o, a, b, c, d, 0) + Sh.joiN T S x)).length ≤ ps.length + 1 := by
  obtain ⟨ho, hck, hful, hje, htot⟩ := bJE_0 hj
  have hP := pol_ok h.ok h.wc (a, b, c, d, 0, 0)
  rw [hT, hS] at hP
  obtain ⟨hk, hle⟩ := Sh.join_keeps hP x0 hje
  obtain ⟨s0, s1⟩ := h.shs o a b c d
  rw [hS] at s1
  have eT : Sh.joiT T S x = T + x := if_pos hje
  have eS : Sh.joiS T S x = S + Sh.priN T S x := if_pos hje
  have eN : Sh.joiN T S x = Sh.priN T S x := if_pos hje
  have hx : 0 < x := by
    have := (Sh.joi_ok hje).2.1
    omega
  rw [eT, eS, eN]
  obtain ⟨g1, g2, g3, g4, g5⟩ := hk
  have hl := put_length (o := ordC) cs (a, b, c, d, T + x, S + Sh.priN T S x) (!decide (T + x = 0 ∧ S + Sh.priN T S x = 0))
  have hst : (!decide (T + x = 0 ∧ S + Sh.priN T S x = 0)) = true := by
    simp only [Bool.not_eq_true', decide_eq_false_iff_not]
    rintro ⟨k, _⟩
    have := hP.1
    omega
  have ekey : ordC (a, b, c, d, T + x, S + Sh.priN T S x) (a, b, c, d, 0, 0) = 0 := odC.self (a, b, c, d, 0, 0)
  have hin : inB ordC cs (a, b, c, d, T + x, S + Sh.priN T S x) = inB ordC cs (a, b, c, d, 0, 0) := by unfold inB; rw [get_eql odC ekey]
  rw [hst, hin] at hl
  have hlen : (setC cs a b c d (T + x) (S + Sh.priN T S x)).length ≤ 1024 := by
    unfold setC
    rw [hst]
    have := h.ok.len
    cases hi : inB ordC cs (a, b, c, d, 0, 0) with
    | true => rw [hi] at hl; simp at hl; omega
    | false =>
      rw [hi] at hl
      simp at hl
      have hne : cs.length ≠ 1024 := fun k => hful ⟨by have := (pol_none h.ok _).1 hi; rwa [hT, hS] at this, k⟩
      omega
  have hsT : sumT (setC cs a b c d (T + x) (S + Sh.priN T S x)) = sumT cs + x := by
    unfold setC
    rw [sumT_put, hst, if_pos rfl]
    have : polT cs (a, b, c, d, T + x, S + Sh.priN T S x) = T := (pol_eql cs ekey).1.trans hT
    rw [this]
    show _ - _ + (T + x) = _
    omega
  refine ⟨⟨set_ok h.ok (fun p hp => (h.wp p hp).1) hck ho (Sh.Ok.chk ⟨g1, g2, g3, g4, g5⟩) (by omega) (by rw [hS]; omega) hlen (by rw [hT]; omega), put_words h.wc fun _ => ⟨g1, by show T + x ≤ _; omega, by show 0 ≤ S + _; omega, g4⟩, put_words h.wp fun _ => ⟨by show 0 ≤ _ + _; omega, by show _ + _ ≤ _; omega⟩⟩, hsT, ?_, put_len _ _ _⟩
  exact put_len _ _ _
theorem shs_at2 {cs ps : List R6} (h : Ok cs ps) {o a b c d : Int} (hs : ¬ shs ps (o, a, b, c, d, 0) = 0) : (0 ≤ o ∧ o ≤ 63) ∧ Sm.ck a b c d = 0 ∧ inB ordC cs (a, b, c, d, 0, 0) = true := by
  unfold shs at hs
  cases hg : get ordP ps (o, a, b, c, d, 0) with
  | none => rw [hg] at hs; exact absurd rfl hs
  | some r =>
    obtain ⟨e, hr⟩ := get_key hg
    obtain ⟨p1, p2, _, p4⟩ := h.po r hr
    rw [stp_of e] at p4
    obtain ⟨r1, r2, r3, r4, r5, r6⟩ := r
    obtain ⟨rfl, rfl, rfl, rfl, rfl⟩ := same_p e
    refine ⟨⟨p1, p2⟩, ?_, ?_⟩
    · cases hc : get ordC cs (stp (r1, r2, r3, r4, r5, 0)) with
      | none => exact absurd hc p4
      | some y =>
        obtain ⟨e2, hy⟩ := get_key hc
        have := (h.cl y hy).1
        obtain ⟨y1, y2, y3, y4, y5, y6⟩ := y
        obtain ⟨rfl, rfl, rfl, rfl⟩ := same_c e2
        exact this
    · unfold inB
      cases hc : get ordC cs (r2, r3, r4, r5, 0, 0) with
      | none => exact absurd hc p4
      | some y => rfl
/-- A Leave of what may be. -/
theorem leave_ok {cs ps : List R6} (h : Hd6 cs ps) {o a b c d x T S : Int} (hT : polT cs (a, b, c, d, 0, 0) = T) (hS : polS cs (a, b, c, d, 0, 0) = S) (x0 : 0 ≤ x) (hj : bLE T S (shs ps (o, a, b, c, d, 0)) x = 0) :
    Hd6 (setC cs a b c d (Sh.leaT T S x) (Sh.leaS T S x)) (setP ps o a b c d (shs ps (o, a, b, c, d, 0) - x)) ∧ sumT (setC cs a b c d (Sh.leaT T S x) (Sh.leaS T S x)) + Sh.leaN T S x = sumT cs ∧ 0 ≤ Sh.leaN T S x ∧ (setC cs a b c d (Sh.leaT T S x) (Sh.leaS T S x)).length ≤ cs.length + 1 ∧ (setP ps o a b c d (shs ps (o, a, b, c, d, 0) - x)).length ≤ ps.length + 1 := by
  obtain ⟨hs, hx, hle⟩ := bLE_0 hj
  obtain ⟨ho, hck, hin⟩ := shs_at2 h.ok hs
  have hP := pol_ok h.ok h.wc (a, b, c, d, 0, 0)
  rw [hT, hS] at hP
  obtain ⟨hk, v0, v1, v2, v3⟩ := Sh.leave_keeps hP x0 hle
  obtain ⟨s0, s1⟩ := h.shs o a b c d
  rw [hS] at s1
  have eT : Sh.leaT T S x = T - Sh.valN T S x := if_pos hle
  have eS : Sh.leaS T S x = S - x := if_pos hle
  have eN : Sh.leaN T S x = Sh.valN T S x := if_pos hle
  rw [eT, eS, eN]
  obtain ⟨g1, g2, g3, g4, g5⟩ := hk
  have hl := put_length (o := ordC) cs (a, b, c, d, T - Sh.valN T S x, S - x) (!decide (T - Sh.valN T S x = 0 ∧ S - x = 0))
  have ekey : ordC (a, b, c, d, T - Sh.valN T S x, S - x) (a, b, c, d, 0, 0) = 0 := odC.self (a, b, c, d, 0, 0)
  have hin2 : inB ordC cs (a, b, c, d, T - Sh.valN T S x, S - x) = true := by unfold inB at hin ⊢; rw [get_eql odC ekey]; exact hin
  rw [hin2] at hl
  have hll : (setC cs a b c d (T - Sh.valN T S x) (S - x)).length ≤ cs.length := by
    unfold setC
    generalize (!decide (T - Sh.valN T S x = 0 ∧ S - x = 0)) = bb at hl ⊢
    cases bb <;> simp at hl <;> omega
  have hsT : sumT (setC cs a b c d (T - Sh.valN T S x) (S - x)) + Sh.valN T S x = sumT cs := by
    unfold setC
    rw [sumT_put]
    have : polT cs (a, b, c, d, T - Sh.valN T S x, S - x) = T := (pol_eql cs ekey).1.trans hT
    rw [this]
    by_cases k : T - Sh.valN T S x = 0 ∧ S - x = 0
    · rw [if_neg (by simp [k])]; omega
    · rw [if_pos (by simpa only [Bool.not_eq_true', decide_eq_false_iff_not] using k)]
      show _ - _ + (T - _) + _ = _
      omega
  have htt : sumT cs - T + (T - Sh.valN T S x) ≤ 4611686018427387904 := by have := h.ok.tot; omega
  refine ⟨⟨set_ok h.ok (fun p hp => (h.wp p hp).1) hck ho (Sh.Ok.chk ⟨g1, g2, g3, g4, g5⟩) (by omega) (by rw [hS]; omega) (by have := h.ok.len; omega) (by rw [hT]; exact htt), put_words h.wc fun _ => ⟨g1, by show T - _ ≤ _; omega, by show 0 ≤ S - x; omega, g4⟩, put_words h.wp fun _ => ⟨by show 0 ≤ _ - _; omega, by show _ - _ ≤ _; have := (shs_words h.wp (o, a, b, c, d, 0)).2; omega⟩⟩, hsT, by omega, by omega, put_len _ _ _⟩
end Ho
end Go.Proofs.YtneajcoiemkfbaaGreat
end

section
/-
  What a Cut makes of a holding that may be may be; what becomes of its tokens. No program.
-/
namespace Go.Proofs.YtneajcoiemkfbaaGreat
open Go.RowKit Go.Shelf
set_option linter.unusedVariables false
namespace Ho

theorem cutR_k2 (v h p : Int) (r : R6) : key (cutR v h p r) = key r := by
  obtain ⟨a, b, c, d, e, f⟩ := r
  show key (if _ then _ else _) = _
  split <;> rfl
theorem full_iff (r : R6) : full r = true ↔ ¬ (tok r = 0 ∧ shr r = 0) := by
  unfold full
  simp only [Bool.not_eq_true', decide_eq_false_iff_not]
theorem ord_keys {x y x' y' : R6} (h : key x = key x') (h' : key y = key y') : ordC x y = ordC x' y' := by
  show ordC (key x) (key y) = ordC (key x') (key y')
  rw [h, h']
/-- What a cut leaves of one class. -/
theorem cutR_is {v h p : Int} (p0 : 0 ≤ p) (p1 : p ≤ 1000000000) {r : R6} (hw : Wd r) (hc : chkR r = 0) :
    Wd (cutR v h p r) ∧ chkR (cutR v h p r) = 0 ∧ ckR (cutR v h p r) = ckR r ∧ tok (cutR v h p r) = tok r - (if bkR v h r then tok (losR p r) else 0) ∧ 0 ≤ tok (losR p r) ∧ tok (losR p r) ≤ tok r ∧ (full (cutR v h p r) = true → shr (cutR v h p r) = shr r) := by
  obtain ⟨a, b, c, d, e, f⟩ := r
  obtain ⟨w0, w1, w2, w3⟩ := hw
  replace hc : Sh.chk e f = 0 := hc
  obtain ⟨k1, k2, k3⟩ := chk_0 hc
  obtain ⟨h1, h2, h3, h4, h5, h6, h7⟩ := Sh.cut_is (T := e) (S := f) ⟨w0, k2, k1, w3, k3⟩ p0 p1
  have hl : tok (losR p (a, b, c, d, e, f)) = Fix.partN e p := h4
  rw [hl]
  have hb : bkR v h (a, b, c, d, e, f) = Sm.bkB a b c d v h 0 := rfl
  rw [hb]
  have hcut : cutR v h p (a, b, c, d, e, f) = if Sm.bkB a b c d v h 0 then (a, b, c, d, Sh.cutT e f p, Sh.cutS e f p) else (a, b, c, d, e, f) := rfl
  rw [hcut]
  by_cases k : Sm.bkB a b c d v h 0 = true
  · rw [if_pos k, if_pos k, h2, h3]
    refine ⟨⟨h7.1, by show e - _ ≤ _; omega, by show 0 ≤ Sh.cq e f p; have := h7.1; have := h7.2.2.1; omega, h7.2.2.2.1⟩, h7.chk, rfl, rfl, h5, h6, fun hf => ?_⟩
    show Sh.cq e f p = f
    rw [← h3]
    unfold Sh.cutS
    rw [if_pos]
    refine ⟨h1, fun he => ?_⟩
    have e1 : e - Fix.partN e p = 0 := by omega
    have e2 := h7.2.2.2.2 e1
    have : full (a, b, c, d, e - Fix.partN e p, Sh.cq e f p) = false := by
      show (!decide (e - Fix.partN e p = 0 ∧ Sh.cq e f p = 0)) = false
      rw [decide_eq_true ⟨e1, e2⟩]; rfl
    rw [this] at hf
    cases hf
  · rw [if_neg k, if_neg k]
    exact ⟨⟨w0, w1, w2, w3⟩, hc, rfl, (Int.sub_zero _).symm, h5, h6, fun _ => rfl⟩
theorem sumS_filter {ps : List R6} {q : R6 → Bool} {y : R6} (h : ∀ p ∈ ps, ordC (stp p) y = 0 → q p = true) : sumS (ps.filter q) y = sumS ps y := by
  induction ps with
  | nil => rfl
  | cons p l ih =>
    have h1 := ih fun x hx => h x (List.mem_cons_of_mem _ hx)
    have h2 := h p List.mem_cons_self
    rw [List.filter_cons]
    show sumS (if q p = true then p :: l.filter q else l.filter q) y = (if ordC (stp p) y = 0 then shr p else 0) + sumS l y
    by_cases k : q p = true
    · rw [if_pos k]
      show (if ordC (stp p) y = 0 then shr p else 0) + sumS (l.filter q) y = _
      rw [h1]
    · rw [if_neg k, h1, if_neg (fun e => k (h2 e)), Int.zero_add]
theorem sumT_full : ∀ (l : List R6), (∀ r ∈ l, chkR r = 0 ∧ Wd r) → sumT (l.filter full) = sumT l
  | [], _ => rfl
  | r :: l, h => by
    have h1 := sumT_full l fun x hx => h x (List.mem_cons_of_mem _ hx)
    rw [List.filter_cons]
    have e2 : sumT (r :: l) = tok r + sumT l := by simp [sumT]
    rw [e2]
    by_cases k : full r = true
    · rw [if_pos k]
      have e1 : sumT (r :: l.filter full) = tok r + sumT (l.filter full) := by simp [sumT]
      rw [e1, h1]
    · rw [if_neg k, h1]
      have : tok r = 0 := by
        unfold full at k
        simp at k
        exact k.1
      omega
theorem sumT_cut {v h p : Int} (p0 : 0 ≤ p) (p1 : p ≤ 1000000000) : ∀ (l : List R6), (∀ r ∈ l, chkR r = 0 ∧ Wd r) → sumT (l.map (cutR v h p)) + sumT ((l.filter (bkR v h)).map (losR p)) = sumT l ∧ 0 ≤ sumT ((l.filter (bkR v h)).map (losR p)) ∧ 0 ≤ sumT (l.map (cutR v h p))
  | [], _ => ⟨rfl, Int.le_refl _, Int.le_refl _⟩
  | r :: l, hl => by
    obtain ⟨h1, h2, h2'⟩ := sumT_cut (v := v) (h := h) p0 p1 l fun x hx => hl x (List.mem_cons_of_mem _ hx)
    obtain ⟨hc, hw⟩ := hl r List.mem_cons_self
    obtain ⟨g1, _, _, g2, g3, g4, _⟩ := cutR_is (v := v) (h := h) p0 p1 hw hc
    have e2 : sumT (r :: l) = tok r + sumT l := by simp [sumT]
    have e3 : sumT ((r :: l).map (cutR v h p)) = tok (cutR v h p r) + sumT (l.map (cutR v h p)) := by simp [sumT]
    have := g1.1
    rw [e2, e3, List.filter_cons]
    by_cases k : bkR v h r = true
    · rw [if_pos k] at g2 ⊢
      have e4 : sumT ((r :: l.filter (bkR v h)).map (losR p)) = tok (losR p r) + sumT ((l.filter (bkR v h)).map (losR p)) := by simp [sumT]
      rw [e4]
      refine ⟨?_, ?_, ?_⟩ <;> omega
    · rw [if_neg k] at g2 ⊢
      refine ⟨?_, ?_, ?_⟩ <;> omega
theorem bKE_0 {v h x : Int} (hk : bKE v h x = 0) : (0 ≤ v ∧ v ≤ 31) ∧ (1 ≤ h ∧ h ≤ 4294967296) ∧ x ≤ 1000000000 := by
  unfold bKE at hk
  by_cases k : ¬ (0 ≤ v ∧ v ≤ 31) ∨ ¬ (1 ≤ h ∧ h ≤ 4294967296) ∨ 1000000000 < x
  · rw [if_pos k] at hk; cases hk
  · refine ⟨?_, ?_, by omega⟩ <;> omega
/-- The classes and positions that a cut leaves. -/
def cutC (cs : List R6) (v h x : Int) : List R6 := (cs.map (cutR v h x)).filter full
def cutP (cs ps : List R6) (v h x : Int) : List R6 := ps.filter fun r => !decide (polT (cs.map (cutR v h x)) (stp r) = 0 ∧ polS (cs.map (cutR v h x)) (stp r) = 0)
/-- A Cut of what may be. -/
theorem cut_keeps {cs ps : List R6} (hh : Hd6 cs ps) {v h x : Int} (x0 : 0 ≤ x) (hk : bKE v h x = 0) :
    Hd6 (cutC cs v h x) (cutP cs ps v h x) ∧ sumT (cutC cs v h x) + sumT (losL v h x cs cs.length) = sumT cs ∧ 0 ≤ sumT (losL v h x cs cs.length) ∧ (cutC cs v h x).length ≤ cs.length ∧ (cutP cs ps v h x).length ≤ ps.length := by
  obtain ⟨_, _, x1⟩ := bKE_0 hk
  have hl : losL v h x cs cs.length = (cs.filter (bkR v h)).map (losR x) := by unfold losL; rw [List.take_length]
  have hcl : ∀ r ∈ cs, chkR r = 0 ∧ Wd r := fun r hr => ⟨(hh.ok.cl r hr).2.1, hh.wc r hr⟩
  have hm : ∀ y ∈ cs.map (cutR v h x), chkR y = 0 ∧ Wd y := fun y hy => by
    obtain ⟨r, hr, rfl⟩ := List.mem_map.1 hy
    obtain ⟨g1, g2, _⟩ := cutR_is (v := v) (h := h) x0 x1 (hcl r hr).2 (hcl r hr).1
    exact ⟨g2, g1⟩
  obtain ⟨s1, s2, s3⟩ := sumT_cut (v := v) (h := h) x0 x1 cs hcl
  have s4 := sumT_full _ hm
  have hs1 : Srt ordC (cs.map (cutR v h x)) := by
    unfold Srt
    rw [List.pairwise_map]
    refine hh.ok.sc.imp fun {a b} hab => ?_
    rw [cutR_key v h x a b]
    exact hab
  have hs2 : Srt ordC (cutC cs v h x) := List.Pairwise.filter _ hs1
  have hlen : (cutC cs v h x).length ≤ cs.length := by
    have := List.length_filter_le full (cs.map (cutR v h x))
    rw [List.length_map] at this
    exact this
  rw [hl]
  refine ⟨⟨⟨by have := hh.ok.len; omega, hs2, fun r hr => ?_, by show sumT ((cs.map (cutR v h x)).filter full) ≤ _; have := hh.ok.tot; omega, List.Pairwise.filter _ hh.ok.sp, fun r hr => ?_, fun y hy => ?_⟩, fun r hr => (hm r (List.mem_filter.1 hr).1).2, fun r hr => hh.wp r (List.mem_filter.1 hr).1⟩, by show sumT ((cs.map (cutR v h x)).filter full) + _ = _; omega, s2, hlen, List.length_filter_le _ _⟩
  · obtain ⟨hr, hf⟩ := List.mem_filter.1 hr
    obtain ⟨r0, hr0, rfl⟩ := List.mem_map.1 hr
    obtain ⟨_, g2, g3, _⟩ := cutR_is (v := v) (h := h) x0 x1 (hcl r0 hr0).2 (hcl r0 hr0).1
    exact ⟨by rw [g3]; exact (hh.ok.cl r0 hr0).1, g2, (full_iff _).1 hf⟩
  · obtain ⟨hr, hf⟩ := List.mem_filter.1 hr
    obtain ⟨p1, p2, p3, _⟩ := hh.ok.po r hr
    refine ⟨p1, p2, p3, fun hg => ?_⟩
    simp only [Bool.not_eq_true', decide_eq_false_iff_not] at hf
    refine hf ?_
    unfold polT polS
    cases hg2 : get ordC (cs.map (cutR v h x)) (stp r) with
    | none => exact ⟨rfl, rfl⟩
    | some y =>
      obtain ⟨e, hy⟩ := get_key hg2
      by_cases k : full y = true
      · rw [get_mem odC hs2 (List.mem_filter.2 ⟨hy, k⟩) e] at hg
        cases hg
      · show tok y = 0 ∧ shr y = 0
        simpa [full] using k
  · obtain ⟨hy1, hf⟩ := List.mem_filter.1 hy
    obtain ⟨r0, hr0, rfl⟩ := List.mem_map.1 hy1
    obtain ⟨_, _, _, _, _, _, g7⟩ := cutR_is (v := v) (h := h) x0 x1 (hcl r0 hr0).2 (hcl r0 hr0).1
    have e0 : ordC (cutR v h x r0) r0 = 0 := by rw [ord_keys (cutR_k2 v h x r0) rfl]; exact odC.self r0
    show sumS (ps.filter _) _ = _
    rw [sumS_filter, sumS_eql ps e0, hh.ok.add r0 hr0, g7 hf]
    intro p hp e
    simp only [Bool.not_eq_true', decide_eq_false_iff_not]
    unfold polT polS
    rw [get_mem odC hs1 hy1 (odC.sym e)]
    intro k
    have hf2 := (full_iff _).1 hf
    exact hf2 k
end Ho
end Go.Proofs.YtneajcoiemkfbaaGreat
end
