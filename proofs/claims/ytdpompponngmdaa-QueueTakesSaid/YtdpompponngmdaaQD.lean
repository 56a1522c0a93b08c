/-
  Texts of this claim, put together: RefDiv, RefApi, Qu18, Qu19, Qu20, QuM4. What each one says, and under which conditions, stands ahead of it.
-/
import Derived.Test.YtdpompponngmdaaGRef
import Derived.Test.YtdpompponngmdaaQC
import Derived.Test.YtdpompponngmdaaSA
import Derived.Test.YtdpompponngmdaaQA
import Derived.Test.YtdpompponngmdaaCC
import Derived.Test.YtdpompponngmdaaGQu7

section
/-
  What distraintref01.Divide answers in this program: the quotient's low word, whether the quotient is above all words, and the rest.
  Conditions: words; the divisor is not 0.
-/
namespace Go.Proofs.Ytdpompponngmdaa
open Go.RowKit Go.Shelf
set_option linter.unusedVariables false
namespace Ref
open Fix

/-- Is the quotient above all words? -/
def big (D : Int) : Bool := decide (18446744073709551616 ≤ D)
theorem big_yes {D : Int} (h : 18446744073709551616 ≤ D) : big D = true := decide_eq_true h
theorem big_no {D : Int} (h : D < 18446744073709551616) : big D = false := decide_eq_false (by omega)

/-- The ways through one round: of what is left (M) and of the quotient (D); X: what the doubled rest is as a word. -/
theorem round_cases {M D M' D' c bit : Int} (c1 : c ≤ 18446744073709551615) (M0 : 0 ≤ M) (M1 : M < c) (D0 : 0 ≤ D) (b0 : 0 ≤ bit) (b1 : bit ≤ 1)
    (h : (c ≤ 2 * M + bit ∧ D' = 2 * D + 1 ∧ M' = 2 * M + bit - c) ∨ (2 * M + bit < c ∧ D' = 2 * D ∧ M' = 2 * M + bit)) :
    ∃ X Z : Int, IntKind.u64.wrap (2 * M) = X ∧ 0 ≤ X ∧ X ≤ 18446744073709551614 ∧ IntKind.u64.wrap (2 * lo D) = Z ∧ 0 ≤ Z ∧ Z ≤ 18446744073709551614 ∧
      ((9223372036854775808 ≤ M ∧ IntKind.u64.wrap (X + bit - c) = M' ∧ Z + 1 = lo D') ∨
       (M < 9223372036854775808 ∧ c ≤ X + bit ∧ IntKind.u64.wrap (X + bit - c) = M' ∧ Z + 1 = lo D') ∨
       ((M / 9223372036854775808 == 1) = false ∧ M' < c ∧ X + bit = M' ∧ Z = lo D')) ∧
      ((big D = true ∧ big D' = true) ∨ (big D = false ∧ (lo D / 9223372036854775808 == 1) = true ∧ big D' = true) ∨ (big D = false ∧ (lo D / 9223372036854775808 == 1) = false ∧ big D' = false)) := by
  refine ⟨_, _, rfl, ?_, ?_, rfl, ?_, ?_, ?_, ?_⟩
  · rw [IntKind.wrap_u64]; omega
  · rw [IntKind.wrap_u64]; omega
  · rw [IntKind.wrap_u64]; omega
  · rw [IntKind.wrap_u64]; unfold lo; omega
  · simp only [IntKind.wrap_u64]
    unfold lo
    rcases h with ⟨h1, h2, h3⟩ | ⟨h1, h2, h3⟩
    · rcases Int.lt_or_le M 9223372036854775808 with h | h
      · right; left; refine ⟨h, ?_, ?_, ?_⟩ <;> omega
      · left; refine ⟨h, ?_, ?_⟩ <;> omega
    · right; right; refine ⟨beq_eq_false_iff_ne.2 (by omega), ?_, ?_, ?_⟩ <;> omega
  · rcases Int.lt_or_le D 18446744073709551616 with hd | hd
    · have e : lo D = D := by unfold lo; omega
      rw [e]
      rcases Int.lt_or_le D 9223372036854775808 with he | he
      · right; right
        exact ⟨big_no hd, beq_eq_false_iff_ne.2 (by omega), big_no (by omega)⟩
      · right; left
        exact ⟨big_no hd, beq_iff_eq.2 (by omega), big_yes (by omega)⟩
    · left
      exact ⟨big_yes hd, big_yes (by omega)⟩

set_option maxRecDepth 100000 in
set_option maxHeartbeats 1000000 in
theorem divide (a b c : Int) (w : World) (a0 : 0 ≤ a) (a1 : a ≤ 18446744073709551615) (b0 : 0 ≤ b) (b1 : b ≤ 18446744073709551615) (c0 : 0 < c) (c1 : c ≤ 18446744073709551615) :
    Calls Try.prog 98 #[.int .u64 a, .int .u64 b, .int .u64 c] w fun e w' => e = .returned (.tuple #[.int .u64 (lo (a * b / c)), .bool (big (a * b / c)), .int .u64 (a * b % c)]) ∧ w = w' := by
  obtain ⟨p0, p1⟩ := mul_le a0 a1 b0 b1
  have WIDE := Lib.hid (fun w => Ref.wide a b w a0 a1 b0 b1)
  generalize a * b = P at *
  have start : P / 2 ^ 128 = 0 := by omega
  have K0 := hi0 p0; have K1 := hi1 (P := P) (by omega); have K2 := lo0 P; have K3 := lo1 P
  go_enter Try.func98, Try.ntmps98
  go_wp2_with fail
  refine (WIDE.out _).mono ?_
  rintro e w' ⟨rfl, rfl⟩
  go_wp2_with fail
  go_loop [11, 12, 13, 14] (fun n o l i => ∃ j : Nat, j ≤ 128 ∧ i = .int .i64 ((j : Int) - 1) ∧ n = .int .u64 (lo (P / 2 ^ j / c)) ∧ o = .bool (big (P / 2 ^ j / c)) ∧ l = .int .u64 (P / 2 ^ j % c)) (fun _ _ _ i => (intOf i + 1).toNat)
  case atStart => exact ⟨128, by omega, by go_num, by rw [start]; simp [lo], by rw [start]; simp [big], by rw [start]; simp⟩
  case round =>
    obtain ⟨j, hj, rfl, rfl, rfl, rfl⟩ := hrel
    rcases j with _ | j
    · rw [show ((0 : Nat) : Int) - 1 = -1 from rfl, show P / 2 ^ 0 = P from by rw [Int.pow_zero, Int.ediv_one]]
      go_wp2
      go_ret3
      exact ⟨rfl, rfl⟩
    · have ei : ((j + 1 : Nat) : Int) - 1 = j := by omega
      rw [ei]
      have hp := pre2 P j
      have hq0 : 0 ≤ P / 2 ^ (j + 1) := Int.ediv_nonneg p0 (Int.pow_nonneg (by decide))
      obtain ⟨bit, hbit⟩ : ∃ bit, P / 2 ^ j % 2 = bit := ⟨_, rfl⟩
      have hb0 : 0 ≤ bit := by omega
      have hb1 : bit ≤ 1 := by omega
      rw [hbit] at hp
      have hs := div_step (q := P / 2 ^ (j + 1)) c0 hq0 hb0 hb1
      rw [← hp] at hs
      have M0 := Int.emod_nonneg (P / 2 ^ (j + 1)) (b := c) (by omega)
      have M1 := Int.emod_lt_of_pos (P / 2 ^ (j + 1)) c0
      have D0 : 0 ≤ P / 2 ^ (j + 1) / c := Int.ediv_nonneg hq0 (by omega)
      clear hp hq0
      generalize P / 2 ^ (j + 1) % c = M at *
      generalize P / 2 ^ (j + 1) / c = D at *
      obtain ⟨M', hM'⟩ : ∃ M', P / 2 ^ j % c = M' := ⟨_, rfl⟩
      obtain ⟨D', hD'⟩ : ∃ D', P / 2 ^ j / c = D' := ⟨_, rfl⟩
      rw [hM', hD'] at hs
      obtain ⟨X, Z, eX, X0, X1, eZ, Z0, Z1, hx, hy⟩ := round_cases c1 M0 M1 D0 hb0 hb1 hs
      have HM := Lib.hid hM'
      have HD := Lib.hid hD'
      have L0 := lo0 D; have L1 := lo1 D
      have hbits : ∃ (j0 : Nat) (Y Y0 : Int), ((j : Int) % 64 = j0) ∧ lo P / 2 ^ j0 = Y0 ∧ 0 ≤ Y0 ∧ hi P / 2 ^ j0 = Y ∧ 0 ≤ Y ∧ ((j ≤ 63 ∧ Y0 % 2 = bit) ∨ (63 < j ∧ Y % 2 = bit)) := by
        refine ⟨j % 64, _, _, by omega, rfl, Int.ediv_nonneg K2 (Int.pow_nonneg (by decide)), rfl, Int.ediv_nonneg K0 (Int.pow_nonneg (by decide)), ?_⟩
        rcases Nat.lt_or_ge j 64 with h | h
        · left
          refine ⟨by omega, ?_⟩
          rw [Nat.mod_eq_of_lt h, ← hbit]
          exact lo_bit P j h
        · right
          refine ⟨by omega, ?_⟩
          rw [show j % 64 = j - 64 by omega, ← hbit]
          exact hi_bit P j h
      obtain ⟨j0, Y, Y0, ej, eY0, hY0, eY, hY, hz⟩ := hbits
      clear hs hbit hM' hD' start ei
      rcases hz with ⟨hz1, hz2⟩ | ⟨hz1, hz2⟩
      all_goals
        rcases hx with ⟨x1, x2, x3⟩ | ⟨x1, x4, x2, x3⟩ | ⟨x1, x4, x2, x3⟩
        all_goals
          rcases hy with ⟨y1, y2⟩ | ⟨y1, y3, y2⟩ | ⟨y1, y3, y2⟩
          all_goals
            have X3 := Lib.hid x3
            have Y2 := Lib.hid y2
            clear x3 y2
            try have Y3 := Lib.hid y3
            try clear y3
            go_wp2
            go_round
            case rel => exact ⟨j, by omega, rfl, by rw [HD.out, ← X3.out], by rw [HD.out, Y2.out]; first | done | rw [Y3.out], by rw [HM.out]⟩
            case measure => simp [intOf]
end Ref
end Go.Proofs.Ytdpompponngmdaa
end

section
/-
  What MulDiv, MulDivUp, Rest, Capped and Part of distraintref01 answer in this program: the same as those of fixnum.
  Conditions: every amount is from 0 to 2^64 - 1.
-/
namespace Go.Proofs.Ytdpompponngmdaa
open Go.RowKit Go.Shelf
set_option linter.unusedVariables false
namespace Ref
open Fix

theorem mulDiv (a b c : Int) (w : World) (a0 : 0 ≤ a) (a1 : a ≤ 18446744073709551615) (b0 : 0 ≤ b) (b1 : b ≤ 18446744073709551615) (c0 : 0 ≤ c) (c1 : c ≤ 18446744073709551615) :
    Calls Try.prog 78 #[.int .u64 a, .int .u64 b, .int .u64 c] w fun e w' => e = .returned (.tuple #[.int .u64 (mdN a b c), .int .i64 (mdE a b c)]) ∧ w = w' := by
  unfold mdN mdE
  by_cases h : c = 0
  · subst h
    rw [if_pos rfl, if_pos rfl]
    go_enter Try.func78, Try.ntmps78
    go_wp2
    go_ret2
    exact ⟨rfl, rfl⟩
  · rw [if_neg h, if_neg h]
    have h' : 0 < c := by omega
    have p0 := (mul_le a0 a1 b0 b1).1
    have q0 : 0 ≤ a * b / c := Int.ediv_nonneg p0 c0
    have F := Lib.hid (fun w => divide a b c w a0 a1 b0 b1 h' c1)
    clear h p0
    generalize a * b / c = Q at *
    rcases Int.lt_or_le 18446744073709551615 Q with hq | hq
    · obtain ⟨e1, e2⟩ := amt_no hq
      rw [e1, e2]
      have hB := big_yes (D := Q) (by omega)
      clear e1 e2
      go_enter Try.func78, Try.ntmps78
      go_wp2_with (go_at_call 98; refine (F.out _).mono ?_; rintro e w' ⟨rfl, rfl⟩)
      go_ret2
      exact ⟨rfl, rfl⟩
    · obtain ⟨e1, e2⟩ := amt_of hq
      rw [e1, e2]
      have hB := big_no (D := Q) (by omega)
      have hl : lo Q = Q := by unfold lo; omega
      have HL := Lib.hid hl
      clear e1 e2 hl
      go_enter Try.func78, Try.ntmps78
      go_wp2_with (go_at_call 98; refine (F.out _).mono ?_; rintro e w' ⟨rfl, rfl⟩)
      go_ret2
      exact ⟨by rw [HL.out]; rfl, rfl⟩

theorem part (a p : Int) (w : World) (a0 : 0 ≤ a) (a1 : a ≤ 18446744073709551615) (p0 : 0 ≤ p) (p1 : p ≤ 18446744073709551615) :
    Calls Try.prog 55 #[.int .u64 a, .int .u64 p] w fun e w' => e = .returned (.tuple #[.int .u64 (partN a p), .int .i64 (partE a p)]) ∧ w = w' := by
  unfold partN partE
  by_cases h : 1000000000 < p
  · rw [if_pos h, if_pos h]
    go_enter Try.func55, Try.ntmps55
    go_wp2
    go_ret2
    exact ⟨rfl, rfl⟩
  · rw [if_neg h, if_neg h]
    go_enter Try.func55, Try.ntmps55
    go_wp2_with (go_at_call 78; refine (mulDiv _ _ _ _ a0 a1 p0 p1 (by decide) (by decide)).mono ?_; rintro e w' ⟨rfl, rfl⟩)
    go_ret2
    exact ⟨rfl, rfl⟩

end Ref
end Go.Proofs.Ytdpompponngmdaa
end

section
/-
  What a cut takes: plain functions and their mathematics; the reference's Backed, of a stamp that may be.
-/
namespace Go.Proofs.Ytdpompponngmdaa
open Go.RowKit Go.Shelf
set_option linter.unusedVariables false
set_option linter.unusedSimpArgs false
set_option Elab.async false
namespace Qu
open Kk Pm

/-- Did an entry back v at h? -/
def bkE (v h : Int) : E8 → Bool
  | (o, a, b, c, d, u, i, n) => Sm.bkB a b c d v h u
/-- The part that it loses. -/
def prt (p : Int) (r : E8) : Int := bal r * p / 1000000000
def cutX (v h p : Int) : E8 → E8
  | (o, a, b, c, d, u, i, n) => if Sm.bkB a b c d v h u = true then (o, a, b, c, d, u, i, n - n * p / 1000000000) else (o, a, b, c, d, u, i, n)
theorem cutX_yes {v h p o a b c d u i n : Int} (hb : Sm.bkB a b c d v h u = true) : cutX v h p (o, a, b, c, d, u, i, n) = (o, a, b, c, d, u, i, n - n * p / 1000000000) := if_pos hb
theorem cutX_no {v h p : Int} {r : E8} (hb : bkE v h r = false) : cutX v h p r = r := by
  obtain ⟨o, a, b, c, d, u, i, n⟩ := r
  exact if_neg (by show ¬ bkE v h (o, a, b, c, d, u, i, n) = true; rw [hb]; decide)
def ctE (l : List E8) (v h p : Int) : Int := if (chk l).1 ≠ 0 then (chk l).1 else if ¬ (0 ≤ v ∧ v < 32 ∧ 1 ≤ h ∧ h ≤ 4294967296 ∧ p ≤ 1000000000) then 3 else 0
/-- What each loses, with its place. -/
def shv (v h p : Int) : Nat → List E8 → List S2
  | _, [] => []
  | k, r :: l => (if bkE v h r = true then [((k : Int), prt p r)] else []) ++ shv v h p (k + 1) l
def lost (v h p : Int) : List E8 → Int
  | [] => 0
  | r :: l => (if bkE v h r = true then prt p r else 0) + lost v h p l
def ctL (l : List E8) (v h p : Int) : List E8 := if ctE l v h p = 0 then l.map (cutX v h p) else []
def ctS (l : List E8) (v h p : Int) : List S2 := if ctE l v h p = 0 then shv v h p 0 l else []
def ctN (l : List E8) (v h p : Int) : Int := if ctE l v h p = 0 then lost v h p l else 0
theorem ct_ways (l : List E8) (v h p : Int) : ((chk l).1 ≠ 0 → ctE l v h p = (chk l).1) ∧ ((chk l).1 = 0 → ¬ (0 ≤ v ∧ v < 32 ∧ 1 ≤ h ∧ h ≤ 4294967296 ∧ p ≤ 1000000000) → ctE l v h p = 3) ∧ ((chk l).1 = 0 → (0 ≤ v ∧ v < 32 ∧ 1 ≤ h ∧ h ≤ 4294967296 ∧ p ≤ 1000000000) → ctE l v h p = 0) := by
  unfold ctE
  exact ⟨fun h => if_pos h, fun h h2 => by rw [if_neg (by omega), if_pos h2], fun h h2 => by rw [if_neg (by omega), if_neg (fun h' => h' h2)]⟩
/-- The queue behind k rounds. -/
def curL (l : List E8) (v h p : Int) (k : Nat) : List E8 := (l.take k).map (cutX v h p) ++ l.drop k
section
variable {l : List E8} {v h p : Int} {k : Nat} {r : E8}
theorem cur_zero : curL l v h p 0 = l := by simp [curL]
theorem cur_len (hk : k ≤ l.length) : (curL l v h p k).length = l.length := by simp [curL]; omega
theorem cur_end : curL l v h p l.length = l.map (cutX v h p) := by simp [curL]
theorem cur_at (hr : l[k]? = some r) : (curL l v h p k)[k]? = some r := by
  have := (List.getElem?_eq_some_iff.1 hr).1
  unfold curL
  rw [List.getElem?_append_right (by simp; omega)]
  simp
  rw [show k + (k - min k l.length) = k by omega]
  exact hr
theorem cur_set (hr : l[k]? = some r) : (curL l v h p k).set k (cutX v h p r) = curL l v h p (k + 1) := by
  have hk := (List.getElem?_eq_some_iff.1 hr).1
  have e : l.drop k = r :: l.drop (k + 1) := by
    rw [List.drop_eq_getElem_cons hk]
    congr 1
    exact (List.getElem?_eq_some_iff.1 hr).2
  unfold curL
  rw [List.set_append_right _ _ (by simp; omega), List.take_add_one, hr, e]
  simp
  rw [show k - min k l.length = 0 by omega]
  rfl
theorem cur_same (hr : l[k]? = some r) (hs : cutX v h p r = r) : curL l v h p (k + 1) = curL l v h p k := by
  rw [← cur_set hr, hs]
  refine List.ext_getElem? fun i => ?_
  have h1 := cur_at (v := v) (h := h) (p := p) hr
  rw [List.getElem?_set]
  split
  · next e =>
    subst e
    rw [if_pos (List.getElem?_eq_some_iff.1 h1).1, h1]
  · rfl
end
theorem shv_app (v h p : Int) : ∀ (l m : List E8) (k : Nat), shv v h p k (l ++ m) = shv v h p k l ++ shv v h p (k + l.length) m
  | [], m, k => by simp [shv]
  | r :: l, m, k => by
    show _ ++ shv v h p (k + 1) (l ++ m) = (_ ++ shv v h p (k + 1) l) ++ shv v h p (k + (l.length + 1)) m
    rw [shv_app v h p l m (k + 1), List.append_assoc, show k + (l.length + 1) = k + 1 + l.length by omega]
theorem shv_len (v h p : Int) : ∀ (l : List E8) (k : Nat), (shv v h p k l).length ≤ l.length
  | [], k => Nat.le_refl _
  | r :: l, k => by
    have := shv_len v h p l (k + 1)
    show (_ ++ shv v h p (k + 1) l).length ≤ l.length + 1
    rw [List.length_append]
    split
    · simp; omega
    · simp; omega
theorem lost_app (v h p : Int) : ∀ (l m : List E8), lost v h p (l ++ m) = lost v h p l + lost v h p m
  | [], m => by show lost v h p m = 0 + lost v h p m; omega
  | r :: l, m => by
    show _ + lost v h p (l ++ m) = (_ + lost v h p l) + lost v h p m
    rw [lost_app v h p l m]; omega
theorem shv_next {l : List E8} {k : Nat} {r : E8} (v h p : Int) (hr : l[k]? = some r) : shv v h p 0 (l.take (k + 1)) = shv v h p 0 (l.take k) ++ (if bkE v h r = true then [((k : Int), prt p r)] else []) := by
  have hk := (List.getElem?_eq_some_iff.1 hr).1
  rw [List.take_add_one, hr, shv_app]
  show _ ++ ((if bkE v h r = true then [(((0 + (l.take k).length : Nat) : Int), prt p r)] else []) ++ []) = _
  rw [List.append_nil, List.length_take, show 0 + min k l.length = k by omega]
theorem lost_next {l : List E8} {k : Nat} {r : E8} (v h p : Int) (hr : l[k]? = some r) : lost v h p (l.take (k + 1)) = lost v h p (l.take k) + (if bkE v h r = true then prt p r else 0) := by
  rw [List.take_add_one, hr, lost_app]
  show _ + ((if bkE v h r = true then prt p r else 0) + 0) = _
  omega
theorem prt_le {p n : Int} (h0 : 0 ≤ n) (p0 : 0 ≤ p) (p1 : p ≤ 1000000000) : 0 ≤ n * p / 1000000000 ∧ n * p / 1000000000 ≤ n := by
  have m0 : 0 ≤ n * p := Int.mul_nonneg h0 p0
  have m1 : n * p ≤ n * 1000000000 := Int.mul_le_mul_of_nonneg_left p1 h0
  omega
theorem lost_le {v h p : Int} (p0 : 0 ≤ p) (p1 : p ≤ 1000000000) : ∀ {l : List E8}, Wd l → 0 ≤ lost v h p l ∧ lost v h p l ≤ tot l
  | [], _ => ⟨Int.le_refl _, Int.le_refl _⟩
  | r :: l, hw => by
    have h1 := prt_le (hw r (List.mem_cons_self ..)).1 p0 p1
    have h2 := lost_le (v := v) (h := h) p0 p1 (l := l) fun x hx => hw x (List.mem_cons_of_mem _ hx)
    show 0 ≤ (if bkE v h r = true then prt p r else 0) + lost v h p l ∧ (if bkE v h r = true then prt p r else 0) + lost v h p l ≤ bal r + tot l
    have h3 : 0 ≤ (if bkE v h r = true then prt p r else 0) ∧ (if bkE v h r = true then prt p r else 0) ≤ bal r := by
      split
      · exact h1
      · exact ⟨Int.le_refl _, (hw r (List.mem_cons_self ..)).1⟩
    omega
theorem lost_take {v h p : Int} (p0 : 0 ≤ p) (p1 : p ≤ 1000000000) {l : List E8} (hw : Wd l) (k : Nat) : 0 ≤ lost v h p (l.take k) ∧ lost v h p (l.take k) ≤ tot l := by
  have h1 := lost_le (v := v) (h := h) p0 p1 (l := l.take k) fun x hx => hw x (List.mem_of_mem_take hx)
  have := tot_mono hw k
  omega
theorem part_of {a p : Int} (a0 : 0 ≤ a) (a1 : a ≤ 18446744073709551615) (p0 : 0 ≤ p) (p1 : p ≤ 1000000000) : Fix.partN a p = a * p / 1000000000 ∧ Fix.partE a p = 0 := by
  have := prt_le a0 p0 p1
  unfold Fix.partN Fix.partE
  rw [if_neg (by omega), if_neg (by omega)]
  unfold Fix.mdN Fix.mdE
  rw [if_neg (by decide), if_neg (by decide)]
  exact Fix.amt_of (P := a * p / 1000000000) (by omega)
/-- A row of one's own is one that is owned. -/
theorem own_rb {α : Type} {K : Rw.Row α} {t : TypeId} {w : World} {base g cap : Nat} {l : List α} (h : Rw.RB K t w g l cap) (hb : base ≤ g) (hm : cap ≤ maxLen) : Rw.OwnR K t w base (.slice (some ⟨g, 0, none⟩) l.length cap) l := by
  obtain ⟨cur, h1, h2, h3⟩ := h.blk
  exact ⟨Rw.flat_len K l, .inr ⟨g, cap, cur, rfl, hb, h1, h.cap, hm, h3, h2⟩⟩
theorem rb_rng {w : World} {g cap k : Nat} {l : List E8} {r1 r2 r3 r4 r5 r6 r7 r8 : Int} (h : Rw.RB eR 27 w g l cap) (hr : l[k]? = some (r1, r2, r3, r4, r5, r6, r7, r8)) :
    w.rangeAt g (k * 8) [.int .i64 r1, .int .i64 r2, .int .i64 r3, .int .i64 r4, .int .i64 r5, .int .i64 r6, .int .u64 r7, .int .u64 r8] := by
  obtain ⟨b, o, e, _, hc⟩ := h.rs.at (List.getElem?_eq_some_iff.1 hr).1 hr
  injection e with e
  injection e with e1 e2
  subst e1 e2
  have hc : w.rangeAt g (0 + k * 8) [.int .i64 r1, .int .i64 r2, .int .i64 r3, .int .i64 r4, .int .i64 r5, .int .i64 r6, .int .u64 r7, .int .u64 r8] := hc
  rwa [Nat.zero_add] at hc
theorem rng_st {w : World} {b o : Nat} {r1 r2 r3 r4 r5 r6 r7 r8 : Value} (h : w.rangeAt b o [r1, r2, r3, r4, r5, r6, r7, r8]) : w.rangeAt b (o + 1) [r2, r3, r4, r5] := fun j u hj => by
  obtain ⟨_, h1, h2, h3, h4, _⟩ := rng8 h
  match j, hj with
  | 0, hj => cases hj; exact h1
  | 1, hj => cases hj; exact h2
  | 2, hj => cases hj; exact h3
  | 3, hj => cases hj; exact h4
theorem bk_a {a b c d v h u : Int} (hk : Sm.ck a b c d = 0) (hv : v = a) (hu : 1 ≤ u) : Sm.bkB a b c d v h u = (decide (b ≤ h) && decide (h ≤ u)) := by
  have hb : b ≠ 0 := by
    unfold Sm.ck at hk
    intro h
    rw [if_pos (by omega)] at hk
    cases hk
  unfold Sm.bkB Sm.hasB Sm.hsF Sm.hsL
  rw [if_pos hv, if_pos hv, if_neg (by omega), decide_eq_true hk, show (b == 0) = false from beq_eq_false_iff_ne.2 hb]
  rfl
theorem bk_c {a b c d v h u : Int} (hk : Sm.ck a b c d = 0) (hv0 : 0 ≤ v) (hv : v ≠ a) (hc : v = c) : Sm.bkB a b c d v h u = (decide (d ≤ h) && decide (h ≤ b)) := by
  have hb : b ≠ 0 := by
    unfold Sm.ck at hk
    intro h
    rw [if_pos (by omega)] at hk
    cases hk
  unfold Sm.bkB Sm.hasB Sm.hsF Sm.hsL
  rw [if_neg hv, if_neg hv, if_pos ⟨hc, by omega⟩, if_pos ⟨hc, by omega⟩, decide_eq_true hk, show (b == 0) = false from beq_eq_false_iff_ne.2 hb, Bool.and_false]
  rfl
theorem bk_n {a b c d v h u : Int} (hv : v ≠ a) (hc : v ≠ c) : Sm.bkB a b c d v h u = false := by
  unfold Sm.bkB Sm.hasB Sm.hsF Sm.hsL
  rw [if_neg hv, if_neg hv, if_neg (fun h => hc h.1), if_neg (fun h => hc h.1)]
  simp
set_option maxHeartbeats 1000000 in
theorem backedR (a b c d v h u : Int) (w : World) (hk : Sm.ck a b c d = 0) (hv0 : 0 ≤ v) (hu : 1 ≤ u) : Calls Try.prog 54 #[.agg #[.int .i64 a, .int .i64 b, .int .i64 c, .int .i64 d], .int .i64 v, .int .i64 h, .int .i64 u] w fun r w' => r = .returned (.bool (Sm.bkB a b c d v h u)) ∧ Bel w w' := by
  have CK := Lib.hid (fun V => Sm.checkR a b c d V)
  rw [hk] at CK
  have B0 := Lib.hid ((Bel.refl w).alloc (.cells #[.int .i64 a, .int .i64 b, .int .i64 c, .int .i64 d] 24))
  have P0 := Lib.hid (Blk.new w #[.int .i64 a, .int .i64 b, .int .i64 c, .int .i64 d] 24)
  have HA := Lib.hid (fun h1 => bk_a (h := h) hk (v := v) h1 hu)
  have HC := Lib.hid (fun h1 h2 => bk_c (h := h) (u := u) hk (v := v) hv0 h1 h2)
  have HN := Lib.hid (fun h1 h2 => bk_n (a := a) (b := b) (c := c) (d := d) (h := h) (u := u) (v := v) h1 h2)
  obtain ⟨X, hX⟩ : ∃ X, Sm.bkB a b c d v h u = X := ⟨_, rfl⟩
  rw [hX] at HA HC HN ⊢
  clear hX hk
  have hv1 : ¬ v < 0 := by omega
  have hu1 : ¬ u < 1 := by omega
  go_enter Try.func54, Try.ntmps54
  go_upto_region 1 with fail
  obtain ⟨W, hW⟩ : ∃ W, w.alloc (.cells #[.int .i64 a, .int .i64 b, .int .i64 c, .int .i64 d] 24) = W := ⟨_, rfl⟩
  obtain ⟨p, hp⟩ : ∃ p, w.heap.size = p := ⟨_, rfl⟩
  rw [hW, hp] at P0
  rw [hW] at B0
  rw [hW, hp]
  clear hW hp
  have c0 := P0.out.cell 0 rfl
  have c1 := P0.out.cell 1 rfl
  have c2 := P0.out.cell 2 rfl
  have c3 := P0.out.cell 3 rfl
  have CK := Lib.hid (CK.out W)
  go_wp2_with fail
  refine CK.out.mono ?_
  rintro e w1 ⟨rfl, kb⟩
  have K1 := Lib.hid (B0.out.trans kb)
  have P1 := Lib.hid (P0.out.bel kb)
  clear kb CK P0 c0 c1 c2 c3
  have c0 := P1.out.cell 0 rfl
  have c1 := P1.out.cell 1 rfl
  have c2 := P1.out.cell 2 rfl
  have c3 := P1.out.cell 3 rfl
  by_cases e1 : v = a
  · have h1 : (v == a) = true := by rw [e1]; simp
    have HX := Lib.hid (HA.out e1)
    clear HA HC HN e1
    by_cases q1 : b ≤ h
    · have q1' := decide_eq_true q1
      rw [q1', Bool.true_and] at HX
      clear q1'
      by_cases q2 : h ≤ u
      · obtain rfl : X = true := HX.out.trans (decide_eq_true q2)
        go_wp2_with fail
        go_ret
        exact ⟨rfl, K1.out⟩
      · obtain rfl : X = false := HX.out.trans (decide_eq_false q2)
        have HQ := Lib.hid q2
        have HU1 := Lib.hid hu1
        go_wp2_with fail
        go_ret
        refine ⟨?_, K1.out⟩
        show Ending.returned (.bool (decide (u < 1) || decide (h ≤ u))) = _
        rw [decide_eq_false (Int.not_lt.2 HU1.out), decide_eq_false (by first | exact HQ.out | exact Int.not_le.2 HQ.out)]
        rfl
    · obtain rfl : X = false := by rw [HX.out, decide_eq_false q1]; rfl
      go_wp2_with fail
      go_ret
      exact ⟨rfl, K1.out⟩
  · have h1 : (v == a) = false := beq_eq_false_iff_ne.2 e1
    by_cases e2 : v = c
    · have h2 : (v == c) = true := by rw [e2]; simp
      have HX := Lib.hid (HC.out e1 e2)
      have WI := Lib.hid (Sm.within h d b w1)
      rw [← HX.out] at WI
      clear HA HC HN e1 e2 HX
      go_wp2_with fail
      refine WI.out.mono ?_
      rintro e w2 ⟨rfl, rfl⟩
      clear WI
      go_wp2_with fail
      go_ret
      exact ⟨rfl, K1.out⟩
    · have h2 : (v == c) = false := beq_eq_false_iff_ne.2 e2
      obtain rfl : X = false := HN.out e1 e2
      clear HA HC HN e1 e2
      go_wp2_with fail
      go_ret
      exact ⟨rfl, K1.out⟩
end Qu
end Go.Proofs.Ytdpompponngmdaa
end

section
/-
  What queue.Cut answers of any queue. Conditions: at most a million entries; Balances are words.
-/
namespace Go.Proofs.Ytdpompponngmdaa
open Go.RowKit Go.Shelf
set_option linter.unusedVariables false
set_option linter.unusedSimpArgs false
set_option Elab.async false
namespace Qu
open Kk Pm

theorem results_tmp4 {fn : Func} {t u v x : Tmp} (h : fn.results = #[.tmp t, .tmp u, .tmp v, .tmp x]) (tmps : Array Value) (P : Program) (w : World) :
    (results fn tmps).run P w = .ok (.tuple #[tmps.getD t undef, tmps.getD u undef, tmps.getD v undef, tmps.getD x undef]) w := by
  simp [results, h]
theorem info_St : (Try.prog.info? 24).map (·.size) = some 4 := by kernel_rfl
/-- What Cut tells. -/
def CutR (w w' : World) (l : List E8) (v h p : Int) (e : Ending) : Prop :=
  ∃ y1 y2, e = .returned (.tuple #[y1, y2, .int .u64 (ctN l v h p), .int .i64 (ctE l v h p)]) ∧ OwnE w' w.heap.size y1 (ctL l v h p) ∧ OwnS w' w.heap.size y2 (ctS l v h p) ∧ Bel w w'
theorem cutR_no {w w' : World} {l : List E8} {v h p x : Int} (hb : Bel w w') (he : ctE l v h p = x) (hx : x ≠ 0) : CutR w w' l v h p (.returned (.tuple #[.slice none 0 0, .slice none 0 0, .int .u64 0, .int .i64 x])) := by
  refine ⟨.slice none 0 0, .slice none 0 0, ?_, ?_, ?_, hb⟩
  · unfold ctN; rw [if_neg (by rw [he]; exact hx), he]
  · unfold ctL; rw [if_neg (by rw [he]; exact hx)]; exact Rw.OwnR.nil_ _ _ _ _
  · unfold ctS; rw [if_neg (by rw [he]; exact hx)]; exact Rw.OwnR.nil_ _ _ _ _
set_option maxRecDepth 100000 in
set_option maxHeartbeats 16000000 in
theorem cut (A : Option Addr) (n c : Nat) (l : List E8) (v h p : Int) (w : World) (hi : Rw.RS eR w A n c l) (hn : n ≤ 1000000) (hw : Wd l) (hp : 0 ≤ p ∧ p ≤ 18446744073709551615) :
    Calls Try.prog 20 #[.slice A n c, .int .i64 v, .int .i64 h, .int .u64 p] w fun e w' => CutR w w' l v h p e := by
  have HI := Lib.hid hi
  have HLN := Lib.hid hi.len
  have HW := Lib.hid hw
  have HP := Lib.hid hp
  have CK := Lib.hid (check A n c l w hi (by omega) hw)
  have CW := Lib.hid (ct_ways l v h p)
  have CN := Lib.hid (fun V (hv : Bel w V) => clone A n c l V (hi.bel hv) (by omega))
  have IV := Lib.hid (fun V => isValidator v V)
  have IH := Lib.hid (fun V => isHeight h V)
  obtain ⟨e1, he1⟩ : ∃ e, (chk l).1 = e := ⟨_, rfl⟩
  obtain ⟨e2, he2⟩ : ∃ e, (chk l).2 = e := ⟨_, rfl⟩
  have H1 := Lib.hid he1
  rw [he1, he2] at CK
  rw [he1] at CW
  clear hi he1 he2 hw hp
  go_enter Try.func20, Try.ntmps20
  go_wp2_with fail
  refine CK.out.mono ?_
  rintro x w1 ⟨rfl, kb⟩
  have K1 := Lib.hid kb
  clear kb CK
  by_cases h0 : e1 = 0
  case neg =>
    have hne : (e1 != 0) = true := by rw [bne_iff_ne]; exact h0
    have HE := Lib.hid (CW.out.1 h0)
    have H0 := Lib.hid h0
    clear h0 CW
    go_wp2_with fail
    ((try simp only [Exit.inBlock, Exit.then]); refine bodyPost_ret (results_tmp4 rfl _ _ _) rfl ?_)
    exact cutR_no K1.out HE.out H0.out
  subst h0
  by_cases hv : 0 ≤ v ∧ v < 32
  case neg =>
    have HE := Lib.hid (CW.out.2.1 rfl (fun h => hv ⟨h.1, h.2.1⟩))
    have iv := IV.out w1
    rw [decide_eq_false hv] at iv
    clear CW
    go_wp2_with fail
    refine iv.mono ?_
    rintro e w2 ⟨rfl, rfl⟩
    clear iv
    go_wp2_with fail
    ((try simp only [Exit.inBlock, Exit.then]); refine bodyPost_ret (results_tmp4 rfl _ _ _) rfl ?_)
    exact cutR_no K1.out HE.out (by decide)
  have iv := IV.out w1
  rw [decide_eq_true hv] at iv
  by_cases hh : 1 ≤ h ∧ h ≤ 4294967296
  case neg =>
    have HE := Lib.hid (CW.out.2.1 rfl (fun h => hh ⟨h.2.2.1, h.2.2.2.1⟩))
    have ih := IH.out w1
    rw [decide_eq_false hh] at ih
    clear CW
    go_wp2_with fail
    refine iv.mono ?_
    rintro e w2 ⟨rfl, rfl⟩
    clear iv
    go_wp2_with fail
    refine ih.mono ?_
    rintro e w2 ⟨rfl, rfl⟩
    clear ih
    go_wp2_with fail
    ((try simp only [Exit.inBlock, Exit.then]); refine bodyPost_ret (results_tmp4 rfl _ _ _) rfl ?_)
    exact cutR_no K1.out HE.out (by decide)
  have ih := IH.out w1
  rw [decide_eq_true hh] at ih
  by_cases hpp : p ≤ 1000000000
  case neg =>
    have HE := Lib.hid (CW.out.2.1 rfl (fun h => hpp h.2.2.2.2))
    have hp1 : 1000000000 < p := by omega
    clear CW
    go_wp2_with fail
    refine iv.mono ?_
    rintro e w2 ⟨rfl, rfl⟩
    clear iv
    go_wp2_with fail
    refine ih.mono ?_
    rintro e w2 ⟨rfl, rfl⟩
    clear ih
    go_wp2_with fail
    ((try simp only [Exit.inBlock, Exit.then]); refine bodyPost_ret (results_tmp4 rfl _ _ _) rfl ?_)
    exact cutR_no K1.out HE.out (by decide)
  have hp1 : ¬ 1000000000 < p := by omega
  have HE := Lib.hid (CW.out.2.2 rfl ⟨hv.1, hv.2, hh.1, hh.2, hpp⟩)
  have HB := Lib.hid (show (0 ≤ v ∧ v < 32) ∧ (1 ≤ h ∧ h ≤ 4294967296) ∧ p ≤ 1000000000 from ⟨hv, hh, hpp⟩)
  have HOK := Lib.hid (chk_ok.1 H1.out)
  have CN := Lib.hid (CN.out w1 K1.out)
  clear CW hv hh hpp IV IH
  go_wp2_with fail
  refine iv.mono ?_
  rintro e w2 ⟨rfl, rfl⟩
  clear iv
  go_wp2_with fail
  refine ih.mono ?_
  rintro e w2 ⟨rfl, rfl⟩
  clear ih
  go_wp2_with fail
  refine CN.out.mono ?_
  rintro x w2 ⟨vc, rfl, ho, kb⟩
  obtain ⟨Ac, cc, rfl, hrs⟩ := ho.slice
  rw [HLN.out] at ho ⊢
  have K2 := Lib.hid (K1.out.trans kb)
  have HO := Lib.hid (ho.mono (Below.size K1.out))
  clear kb ho hrs CN
  go_wp2_with fail
  go_loopw [8, 9, 10, 11, 15, 16, 45] (fun s8 s9 s10 s11 s15 s16 s45 wr => ∃ (k : Nat) (t : Int), k ≤ n ∧ s45 = .int .i64 k ∧ s8 = .slice none 0 0 ∧ s9 = .slice none 0 0 ∧ s10 = .int .u64 0 ∧ s11 = .int .i64 0 ∧ s16 = .int .u64 t ∧ Hid (lost v h p (l.take k) = t) ∧ Hid (OwnE wr w.heap.size (.slice Ac n cc) (curL l v h p k)) ∧ Hid (OwnS wr w.heap.size s15 (shv v h p 0 (l.take k))) ∧ Hid (Bel w wr)) (fun _ _ _ _ _ _ s45 _ => n - (intOf s45).toNat)
  case atStart => exact ⟨0, 0, Nat.zero_le _, rfl, rfl, rfl, rfl, rfl, rfl, Lib.hid rfl, Lib.hid (by rw [cur_zero]; exact HO.out), Lib.hid (Rw.OwnR.nil_ _ _ _ _), K2⟩
  case round =>
    obtain ⟨k, t, hk, rfl, rfl, rfl, rfl, rfl, rfl, ht, ho, hs, hb⟩ := hrel
    by_cases hlt : k < n
    · obtain ⟨⟨r1, r2, r3, r4, r5, r6, r7, r8⟩, hr⟩ := HI.out.get hlt
      obtain ⟨g, cap_, e, hge, hrb, hcm⟩ := Rw.rb_own eR ho.out (by rw [cur_len (by rw [HLN.out]; omega), HLN.out]; omega)
      rw [cur_len (by rw [HLN.out]; omega), HLN.out] at e
      injection e with ea eb ec
      subst ea ec
      have HRB := Lib.hid hrb
      have HGE := Lib.hid hge
      have HCM := Lib.hid hcm
      have HR := Lib.hid hr
      have HM := Lib.hid ((may_iff r1 r2 r3 r4 r5 r6 r7 r8).1 (srt_le l 0 HOK.out.2.1 _ (List.mem_of_getElem? hr)).1)
      have HN8 := Lib.hid (show 0 ≤ r8 ∧ r8 ≤ 18446744073709551615 from HW.out.at hr)
      have HRNG := Lib.hid (rb_rng hrb (cur_at hr))
      have BK := Lib.hid (fun V => Sm.backed r2 r3 r4 r5 v h r6 V)
      have HLS := Lib.hid (lost_next v h p hr)
      have HSN := Lib.hid (shv_next v h p hr)
      have hlt3 : (k : Int) < n := by omega
      have hlt0 : (0 : Int) ≤ k := by omega
      obtain ⟨b, hbk⟩ : ∃ b, Sm.bkB r2 r3 r4 r5 v h r6 = b := ⟨_, rfl⟩
      have HBK := Lib.hid hbk
      rw [hbk] at BK
      have HLS := Lib.hid (show lost v h p (l.take (k + 1)) = t + (if b = true then r8 * p / 1000000000 else 0) by rw [HLS.out, ht.out, ← hbk]; rfl)
      have HSN := Lib.hid (show shv v h p 0 (l.take (k + 1)) = shv v h p 0 (l.take k) ++ (if b = true then [((k : Int), r8 * p / 1000000000)] else []) by rw [HSN.out, ← hbk]; rfl)
      clear hr hrb hge hcm hbk
      cases b with
      | false =>
        have S1 := Lib.hid (show OwnE wr w.heap.size (.slice (some ⟨g, 0, none⟩) n cc) (curL l v h p (k + 1)) by rw [cur_same HR.out (cutX_no HBK.out)]; exact ho.out)
        have S2 := Lib.hid (show shv v h p 0 (l.take (k + 1)) = shv v h p 0 (l.take k) by rw [HSN.out]; simp)
        have S3 := Lib.hid (show lost v h p (l.take (k + 1)) = t by rw [HLS.out]; simp)
        clear HLS HSN
        go_upto_region 13 with fail
        refine wp_region_held_drew (S := fun Vx => Bel wr Vx) (by kernel_rfl) (Bel.refl _).drew (fun hS0 => ?_)
        obtain ⟨w6, hw6⟩ : ∃ w6, World.drew wr = w6 := ⟨_, rfl⟩
        rw [hw6] at hS0 ⊢
        clear hw6
        refine wpAnyH_take (i := 0) (oi := { dst := some 51, op := .move (.tmp 18), type := 79, pos := "queue.go:66", after := #[], guard := none }) (v := .pointer (some ⟨g, k * 8, none⟩)) rfl (by kernel_rfl) (by kernel_rfl) (by kernel_rfl) (fun _ _ _ h => h) (Or.inl ⟨by rfl, by intro w hSw; clear hSw; go_simp⟩) hS0 ?_
        try simp only [Act.put, List.setIfInBounds_toArray, List.set_cons_zero, List.set_cons_succ]
        refine wpAnyH_take (i := 1) (oi := { dst := some 52, op := Op.nilCheck (.tmp 51), type := 0, pos := "queue.go:66", after := #[{ on := 0, ground := .data }], guard := none }) (v := .pointer (some ⟨g, k * 8, none⟩)) rfl (by kernel_rfl) (by kernel_rfl) (by kernel_rfl) (fun _ _ _ h => h) (Or.inl ⟨by rfl, by intro w hSw; clear hSw; go_simp⟩) hS0 ?_
        try simp only [Act.put, List.setIfInBounds_toArray, List.set_cons_zero, List.set_cons_succ]
        refine wpAnyH_take (i := 2) (oi := { dst := some 53, op := .fieldAddr 27 (.tmp 52) 1, type := 0, pos := "queue.go:66", after := #[{ on := 1, ground := .data }], guard := none }) (v := .pointer (some ⟨g, k * 8 + 1, none⟩)) rfl (by kernel_rfl) (by kernel_rfl) (by kernel_rfl) (fun _ _ _ h => h) (Or.inl ⟨by rfl, by intro w hSw; clear hSw; go_simp⟩) hS0 ?_
        try simp only [Act.put, List.setIfInBounds_toArray, List.set_cons_zero, List.set_cons_succ]
        refine wpAnyH_take (i := 3) (oi := { dst := some 54, op := .load 24 (.tmp 53), type := 24, pos := "queue.go:66", after := #[{ on := 2, ground := .data }], guard := none }) (v := .agg #[.int .i64 r2, .int .i64 r3, .int .i64 r4, .int .i64 r5]) rfl (by kernel_rfl) (by kernel_rfl) (by kernel_rfl) (fun _ _ _ h => h) (yieldsIf_load_mid (by rfl) _ _ rfl _ _ rfl _ _ (fun w h => Pm.rng_bel (rng_st HRNG.out) h) Try.underlying24 rfl info_St) hS0 ?_
        try simp only [Act.put, List.setIfInBounds_toArray, List.set_cons_zero, List.set_cons_succ]
        refine wpAnyH_take (i := 4) (oi := { dst := some 55, op := .move (.tmp 1), type := 3, pos := "queue.go:66", after := #[], guard := none }) (v := .int .i64 v) rfl (by kernel_rfl) (by kernel_rfl) (by kernel_rfl) (fun _ _ _ h => h) (Or.inl ⟨by rfl, by intro w hSw; clear hSw; go_simp⟩) hS0 ?_
        try simp only [Act.put, List.setIfInBounds_toArray, List.set_cons_zero, List.set_cons_succ]
        refine wpAnyH_take (i := 5) (oi := { dst := some 56, op := .move (.tmp 2), type := 3, pos := "queue.go:66", after := #[], guard := none }) (v := .int .i64 h) rfl (by kernel_rfl) (by kernel_rfl) (by kernel_rfl) (fun _ _ _ h => h) (Or.inl ⟨by rfl, by intro w hSw; clear hSw; go_simp⟩) hS0 ?_
        try simp only [Act.put, List.setIfInBounds_toArray, List.set_cons_zero, List.set_cons_succ]
        refine wpAnyH_take (i := 6) (oi := { dst := some 57, op := .move (.tmp 18), type := 79, pos := "queue.go:66", after := #[], guard := none }) (v := .pointer (some ⟨g, k * 8, none⟩)) rfl (by kernel_rfl) (by kernel_rfl) (by kernel_rfl) (fun _ _ _ h => h) (Or.inl ⟨by rfl, by intro w hSw; clear hSw; go_simp⟩) hS0 ?_
        try simp only [Act.put, List.setIfInBounds_toArray, List.set_cons_zero, List.set_cons_succ]
        refine wpAnyH_take (i := 7) (oi := { dst := some 58, op := Op.nilCheck (.tmp 57), type := 0, pos := "queue.go:66", after := #[{ on := 6, ground := .data }], guard := none }) (v := .pointer (some ⟨g, k * 8, none⟩)) rfl (by kernel_rfl) (by kernel_rfl) (by kernel_rfl) (fun _ _ _ h => h) (Or.inl ⟨by rfl, by intro w hSw; clear hSw; go_simp⟩) hS0 ?_
        try simp only [Act.put, List.setIfInBounds_toArray, List.set_cons_zero, List.set_cons_succ]
        refine wpAnyH_take (i := 8) (oi := { dst := some 59, op := .fieldAddr 27 (.tmp 58) 2, type := 0, pos := "queue.go:66", after := #[{ on := 7, ground := .data }], guard := none }) (v := .pointer (some ⟨g, k * 8 + 5, none⟩)) rfl (by kernel_rfl) (by kernel_rfl) (by kernel_rfl) (fun _ _ _ h => h) (Or.inl ⟨by rfl, by intro w hSw; clear hSw; go_simp⟩) hS0 ?_
        try simp only [Act.put, List.setIfInBounds_toArray, List.set_cons_zero, List.set_cons_succ]
        refine wpAnyH_take (i := 9) (oi := { dst := some 60, op := .load 3 (.tmp 59), type := 3, pos := "queue.go:66", after := #[{ on := 8, ground := .data }], guard := none }) (v := .int .i64 r6) rfl (by kernel_rfl) (by kernel_rfl) (by kernel_rfl) (fun _ _ _ h => h) (Or.inl ⟨by rfl, by intro w h; have hcell := ((rng8 (Pm.rng_bel HRNG.out h)).2.2.2.2.2.1); clear h; go_simp⟩) hS0 ?_
        try simp only [Act.put, List.setIfInBounds_toArray, List.set_cons_zero, List.set_cons_succ]
        refine wpAnyH_ready (rs := [10]) (by kernel_rfl) (by simp) ?_
        refine AllReadyH.cons (o := { dst := some 61, op := .call { callee := .value (.func 40), args := #[.tmp 54, .tmp 55, .tmp 56, .tmp 60], argTypes := #[24, 3, 3, 3] }, type := 4, pos := "queue.go:66", after := #[{ on := 3, ground := .data }, { on := 4, ground := .data }, { on := 5, ground := .data }, { on := 9, ground := .data }], guard := none }) rfl (fun K hK => ?_) AllReadyH.nil
        go_simp
        refine (BK.out _).mono ?_
        rintro e v1 ⟨rfl, kb⟩
        go_wp2_with fail
        refine hK.out _ _ (hS0.trans kb) (fun hS1 => ?_)
        clear hK K
        try simp only [Act.put, List.setIfInBounds_toArray, List.set_cons_zero, List.set_cons_succ]
        refine wpAnyH_take (i := 11) (oi := { dst := some 62, op := .unOp .not 4 (.tmp 61), type := 4, pos := "queue.go:66", after := #[{ on := 10, ground := .data }], guard := none }) (v := .bool true) rfl (by kernel_rfl) (by kernel_rfl) (by kernel_rfl) (fun _ _ _ h => h) (Or.inl ⟨by rfl, by intro w hSw; clear hSw; go_simp⟩) hS1 ?_
        try simp only [Act.put, List.setIfInBounds_toArray, List.set_cons_zero, List.set_cons_succ]
        refine wpAnyH_done (by kernel_rfl) ?_ _
        have HS5 := Lib.hid hS1
        clear hS1
        go_wp2_with fail
        go_roundw
        case rel => exact ⟨k + 1, t, by omega, by go_num, rfl, rfl, rfl, rfl, rfl, S3, Lib.hid (S1.out.bel HS5.out), Lib.hid (by rw [S2.out]; exact hs.out.bel HS5.out), Lib.hid (hb.out.trans HS5.out)⟩
        case measure => simp [intOf]; omega
      | true =>
        have HSN1 := Lib.hid (show shv v h p 0 (l.take (k + 1)) = shv v h p 0 (l.take k) ++ [((k : Int), r8 * p / 1000000000)] from HSN.out)
        have HLS1 := Lib.hid (show lost v h p (l.take (k + 1)) = t + r8 * p / 1000000000 from HLS.out)
        clear HSN HLS
        have HPR := Lib.hid (prt_le HN8.out.1 HP.out.1 HB.out.2.2)
        have HPO := Lib.hid (part_of HN8.out.1 HN8.out.2 HP.out.1 HB.out.2.2)
        have PT := Lib.hid (fun V => Fix.part r8 p V HN8.out.1 HN8.out.2 HP.out.1 HP.out.2)
        rw [HPO.out.1, HPO.out.2] at PT
        have HLT := Lib.hid (lost_take (v := v) (h := h) HP.out.1 HB.out.2.2 HW.out (k + 1))
        rw [HLS1.out] at HLT
        have HSET := Lib.hid (show cutX v h p (r1, r2, r3, r4, r5, r6, r7, r8) = (r1, r2, r3, r4, r5, r6, r7, r8 - r8 * p / 1000000000) from cutX_yes HBK.out)
        have HT0 := Lib.hid (lost_take (v := v) (h := h) HP.out.1 HB.out.2.2 HW.out k)
        rw [ht.out] at HT0
        obtain ⟨q, hq⟩ : ∃ q, r8 * p / 1000000000 = q := ⟨_, rfl⟩
        rw [hq] at HSN1 HLS1 HPR PT HLT HSET
        have hw1 : IntKind.u64.wrap (r8 - q) = r8 - q := IntWalk.u64_in _ (by have := HPR.out; have := HN8.out; omega)
        have hw2 : IntKind.u64.wrap (t + q) = t + q := IntWalk.u64_in _ (by have := HLT.out; have := HOK.out.2.2; have := HPR.out; have := HT0.out; omega)
        have HLL := Lib.hid (show (shv v h p 0 (l.take k)).length ≤ 1000000 from Nat.le_trans (shv_len _ _ _ _ _) (by rw [List.length_take]; omega))
        clear hq HPO HLT HT0
        go_upto_region 13 with fail
        refine wp_region_held_drew (S := fun Vx => Bel wr Vx) (by kernel_rfl) (Bel.refl _).drew (fun hS0 => ?_)
        obtain ⟨w6, hw6⟩ : ∃ w6, World.drew wr = w6 := ⟨_, rfl⟩
        rw [hw6] at hS0 ⊢
        clear hw6
        refine wpAnyH_take (i := 0) (oi := { dst := some 51, op := .move (.tmp 18), type := 79, pos := "queue.go:66", after := #[], guard := none }) (v := .pointer (some ⟨g, k * 8, none⟩)) rfl (by kernel_rfl) (by kernel_rfl) (by kernel_rfl) (fun _ _ _ h => h) (Or.inl ⟨by rfl, by intro w hSw; clear hSw; go_simp⟩) hS0 ?_
        try simp only [Act.put, List.setIfInBounds_toArray, List.set_cons_zero, List.set_cons_succ]
        refine wpAnyH_take (i := 1) (oi := { dst := some 52, op := Op.nilCheck (.tmp 51), type := 0, pos := "queue.go:66", after := #[{ on := 0, ground := .data }], guard := none }) (v := .pointer (some ⟨g, k * 8, none⟩)) rfl (by kernel_rfl) (by kernel_rfl) (by kernel_rfl) (fun _ _ _ h => h) (Or.inl ⟨by rfl, by intro w hSw; clear hSw; go_simp⟩) hS0 ?_
        try simp only [Act.put, List.setIfInBounds_toArray, List.set_cons_zero, List.set_cons_succ]
        refine wpAnyH_take (i := 2) (oi := { dst := some 53, op := .fieldAddr 27 (.tmp 52) 1, type := 0, pos := "queue.go:66", after := #[{ on := 1, ground := .data }], guard := none }) (v := .pointer (some ⟨g, k * 8 + 1, none⟩)) rfl (by kernel_rfl) (by kernel_rfl) (by kernel_rfl) (fun _ _ _ h => h) (Or.inl ⟨by rfl, by intro w hSw; clear hSw; go_simp⟩) hS0 ?_
        try simp only [Act.put, List.setIfInBounds_toArray, List.set_cons_zero, List.set_cons_succ]
        refine wpAnyH_take (i := 3) (oi := { dst := some 54, op := .load 24 (.tmp 53), type := 24, pos := "queue.go:66", after := #[{ on := 2, ground := .data }], guard := none }) (v := .agg #[.int .i64 r2, .int .i64 r3, .int .i64 r4, .int .i64 r5]) rfl (by kernel_rfl) (by kernel_rfl) (by kernel_rfl) (fun _ _ _ h => h) (yieldsIf_load_mid (by rfl) _ _ rfl _ _ rfl _ _ (fun w h => Pm.rng_bel (rng_st HRNG.out) h) Try.underlying24 rfl info_St) hS0 ?_
        try simp only [Act.put, List.setIfInBounds_toArray, List.set_cons_zero, List.set_cons_succ]
        refine wpAnyH_take (i := 4) (oi := { dst := some 55, op := .move (.tmp 1), type := 3, pos := "queue.go:66", after := #[], guard := none }) (v := .int .i64 v) rfl (by kernel_rfl) (by kernel_rfl) (by kernel_rfl) (fun _ _ _ h => h) (Or.inl ⟨by rfl, by intro w hSw; clear hSw; go_simp⟩) hS0 ?_
        try simp only [Act.put, List.setIfInBounds_toArray, List.set_cons_zero, List.set_cons_succ]
        refine wpAnyH_take (i := 5) (oi := { dst := some 56, op := .move (.tmp 2), type := 3, pos := "queue.go:66", after := #[], guard := none }) (v := .int .i64 h) rfl (by kernel_rfl) (by kernel_rfl) (by kernel_rfl) (fun _ _ _ h => h) (Or.inl ⟨by rfl, by intro w hSw; clear hSw; go_simp⟩) hS0 ?_
        try simp only [Act.put, List.setIfInBounds_toArray, List.set_cons_zero, List.set_cons_succ]
        refine wpAnyH_take (i := 6) (oi := { dst := some 57, op := .move (.tmp 18), type := 79, pos := "queue.go:66", after := #[], guard := none }) (v := .pointer (some ⟨g, k * 8, none⟩)) rfl (by kernel_rfl) (by kernel_rfl) (by kernel_rfl) (fun _ _ _ h => h) (Or.inl ⟨by rfl, by intro w hSw; clear hSw; go_simp⟩) hS0 ?_
        try simp only [Act.put, List.setIfInBounds_toArray, List.set_cons_zero, List.set_cons_succ]
        refine wpAnyH_take (i := 7) (oi := { dst := some 58, op := Op.nilCheck (.tmp 57), type := 0, pos := "queue.go:66", after := #[{ on := 6, ground := .data }], guard := none }) (v := .pointer (some ⟨g, k * 8, none⟩)) rfl (by kernel_rfl) (by kernel_rfl) (by kernel_rfl) (fun _ _ _ h => h) (Or.inl ⟨by rfl, by intro w hSw; clear hSw; go_simp⟩) hS0 ?_
        try simp only [Act.put, List.setIfInBounds_toArray, List.set_cons_zero, List.set_cons_succ]
        refine wpAnyH_take (i := 8) (oi := { dst := some 59, op := .fieldAddr 27 (.tmp 58) 2, type := 0, pos := "queue.go:66", after := #[{ on := 7, ground := .data }], guard := none }) (v := .pointer (some ⟨g, k * 8 + 5, none⟩)) rfl (by kernel_rfl) (by kernel_rfl) (by kernel_rfl) (fun _ _ _ h => h) (Or.inl ⟨by rfl, by intro w hSw; clear hSw; go_simp⟩) hS0 ?_
        try simp only [Act.put, List.setIfInBounds_toArray, List.set_cons_zero, List.set_cons_succ]
        refine wpAnyH_take (i := 9) (oi := { dst := some 60, op := .load 3 (.tmp 59), type := 3, pos := "queue.go:66", after := #[{ on := 8, ground := .data }], guard := none }) (v := .int .i64 r6) rfl (by kernel_rfl) (by kernel_rfl) (by kernel_rfl) (fun _ _ _ h => h) (Or.inl ⟨by rfl, by intro w h; have hcell := ((rng8 (Pm.rng_bel HRNG.out h)).2.2.2.2.2.1); clear h; go_simp⟩) hS0 ?_
        try simp only [Act.put, List.setIfInBounds_toArray, List.set_cons_zero, List.set_cons_succ]
        refine wpAnyH_ready (rs := [10]) (by kernel_rfl) (by simp) ?_
        refine AllReadyH.cons (o := { dst := some 61, op := .call { callee := .value (.func 40), args := #[.tmp 54, .tmp 55, .tmp 56, .tmp 60], argTypes := #[24, 3, 3, 3] }, type := 4, pos := "queue.go:66", after := #[{ on := 3, ground := .data }, { on := 4, ground := .data }, { on := 5, ground := .data }, { on := 9, ground := .data }], guard := none }) rfl (fun K hK => ?_) AllReadyH.nil
        go_simp
        refine (BK.out _).mono ?_
        rintro e v1 ⟨rfl, kb⟩
        go_wp2_with fail
        refine hK.out _ _ (hS0.trans kb) (fun hS1 => ?_)
        clear hK K
        try simp only [Act.put, List.setIfInBounds_toArray, List.set_cons_zero, List.set_cons_succ]
        refine wpAnyH_take (i := 11) (oi := { dst := some 62, op := .unOp .not 4 (.tmp 61), type := 4, pos := "queue.go:66", after := #[{ on := 10, ground := .data }], guard := none }) (v := .bool false) rfl (by kernel_rfl) (by kernel_rfl) (by kernel_rfl) (fun _ _ _ h => h) (Or.inl ⟨by rfl, by intro w hSw; clear hSw; go_simp⟩) hS1 ?_
        try simp only [Act.put, List.setIfInBounds_toArray, List.set_cons_zero, List.set_cons_succ]
        refine wpAnyH_done (by kernel_rfl) ?_ _
        have HS5 := Lib.hid hS1
        have HRB5 := Lib.hid (HRB.out.bel hS1)
        have HS_ := Lib.hid (hs.out.bel hS1)
        have HB5 := Lib.hid (hb.out.trans hS1)
        clear hS1 BK
        obtain ⟨w5, hw5⟩ : ∃ w5, v1 = w5 := ⟨_, rfl⟩
        rw [hw5] at HRB5 HS_ HB5 HS5 ⊢
        clear hw5
        have PT := Lib.hid (PT.out w5)
        have pc7 := (rng8 (rb_rng HRB5.out (cur_at HR.out))).2.2.2.2.2.2.2
        go_wp2_with fail
        refine PT.out.mono ?_
        rintro e w6 ⟨rfl, kb⟩
        have HRB6 := Lib.hid (HRB5.out.bel kb)
        have HS6 := Lib.hid (HS_.out.bel kb)
        have HB6 := Lib.hid (HB5.out.trans kb)
        clear PT kb pc7
        have HRNG6 := Lib.hid (rb_rng HRB6.out (cur_at HR.out))
        have hfz := HRB6.out.frozen (k * 8 + 7)
        have there_ := (rng8 HRNG6.out).2.2.2.2.2.2.2
        have STEP : OwnE (w6.setCell ⟨g, k * 8 + 7, none⟩ (.int .u64 (r8 - q))) w.heap.size (.slice (some ⟨g, 0, none⟩) n cc) (curL l v h p (k + 1)) ∧ OwnS (w6.setCell ⟨g, k * 8 + 7, none⟩ (.int .u64 (r8 - q))) w.heap.size u15 (shv v h p 0 (l.take k)) ∧ Bel w (w6.setCell ⟨g, k * 8 + 7, none⟩ (.int .u64 (r8 - q))) := by
          have h1 := HRB6.out.set (o := 7) (r' := (r1, r2, r3, r4, r5, r6, r7, r8 - q)) (v := .int .u64 (r8 - q)) (by decide) (cur_at HR.out) rfl
          rw [← HSET.out, cur_set HR.out] at h1
          have h2 := own_rb h1 HGE.out HCM.out
          rw [cur_len (by rw [HLN.out]; omega), HLN.out] at h2
          refine ⟨h2, HS6.out.kep (S := fun b => b = g) (Kep.set_self (Kep.refl _ _) _ _) (fun i e e' => ?_), HB6.out.set HGE.out _⟩
          obtain ⟨C, hC, _⟩ := HRB6.out.blk
          subst e'
          exact Rw.own_ne HS6.out hC (by decide) e
        obtain ⟨W1, hW1⟩ : ∃ W, w6.setCell ⟨g, k * 8 + 7, none⟩ (.int .u64 (r8 - q)) = W := ⟨_, rfl⟩
        rw [hW1] at STEP
        have HW1 := Lib.hid hW1
        have S1 := Lib.hid STEP.1
        have S2 := Lib.hid (STEP.2.1.bel ((Bel.refl W1).alloc (.cells #[.int .i64 k, .int .u64 q] 68)))
        have S3 := Lib.hid STEP.2.2
        have HX := Lib.hid (Rw.rs_one sR (r := ((k : Int), q)) (Blk.new W1 #[.int .i64 k, .int .u64 q] 68))
        have HSZ := Lib.hid (Below.size S3.out)
        clear STEP hW1
        go_upto_region 18 with fail
        rw [HW1.out]
        clear hfz there_
        go_wp2_with (at_builtin; refine Rw.append_R sR rfl _ _ _ 68 rfl underS zero_S rfl (by decide) w.heap.size _ (shv v h p 0 (l.take k)) rfl S2.out (some ⟨W1.heap.size, 0, none⟩) 1 1 [((k : Int), q)] rfl HX.out (by have := HLL.out; omega) (by have := HSZ.out; simp; omega) ?_; intro v9 w9 hown' hgrow)
        have hgrow : World.grownBy _ w9 (Value.ownBlock u15) := hgrow
        have T2 := Lib.hid hown'
        have T3 := Lib.hid (show Bel w w9 from Kk.Bel.grown (S3.out.alloc _) hgrow (fun k hk => (S2.out.lt k hk).1))
        have T1 := Lib.hid (show OwnE w9 w.heap.size (.slice (some ⟨g, 0, none⟩) n cc) (curL l v h p (k + 1)) from (S1.out.bel ((Bel.refl W1).alloc (.cells #[.int .i64 k, .int .u64 q] 68))).kept hgrow (.inr (fun e => Rw.own_ne2 S2.out (S1.out.bel ((Bel.refl W1).alloc (.cells #[.int .i64 k, .int .u64 q] 68))) (by decide) g e.symm rfl)))
        have T4 := Lib.hid (show OwnS w9 w.heap.size v9 (shv v h p 0 (l.take (k + 1))) by rw [HSN1.out]; exact T2.out)
        have T5 := Lib.hid HLS1.out
        clear hown' hgrow
        go_wp2_with fail
        go_roundw
        case rel => exact ⟨k + 1, t + q, by omega, by go_num, rfl, rfl, rfl, rfl, rfl, T5, T1, T4, T3⟩
        case measure => simp [intOf]; omega
    · obtain rfl : k = n := by omega
      go_wp2_with fail
      (try rw [Exit.noGoto_ret])
      ((try simp only [Exit.inBlock, Exit.then]); refine bodyPost_ret (results_tmp4 rfl _ _ _) rfl ?_)
      refine ⟨_, _, by rw [HE.out]; unfold ctN; rw [if_pos HE.out, ← ht.out, List.take_of_length_le (by rw [HLN.out]; exact Nat.le_refl _)]; rfl, ?_, ?_, hb.out⟩
      · unfold ctL
        rw [if_pos HE.out, ← cur_end, HLN.out]
        exact ho.out
      · unfold ctS
        rw [if_pos HE.out]
        have := hs.out
        rw [List.take_of_length_le (by rw [HLN.out]; exact Nat.le_refl _)] at this
        exact this
end Qu
end Go.Proofs.Ytdpompponngmdaa
end

section
/-
  What the reference's Cut answers of any queue. Conditions: at most a million entries; Balances are words.
-/
namespace Go.Proofs.Ytdpompponngmdaa
open Go.RowKit Go.Shelf
set_option linter.unusedVariables false
set_option linter.unusedSimpArgs false
set_option Elab.async false
namespace Qu
open Kk Pm

set_option maxRecDepth 100000 in
set_option maxHeartbeats 16000000 in
theorem cutR (A : Option Addr) (n c : Nat) (l : List E8) (v h p : Int) (w : World) (hi : Rw.RS eR w A n c l) (hn : n ≤ 1000000) (hw : Wd l) (hp : 0 ≤ p ∧ p ≤ 18446744073709551615) :
    Calls Try.prog 21 #[.slice A n c, .int .i64 v, .int .i64 h, .int .u64 p] w fun e w' => CutR w w' l v h p e := by
  have HI := Lib.hid hi
  have HLN := Lib.hid hi.len
  have HW := Lib.hid hw
  have HP := Lib.hid hp
  have CK := Lib.hid (checkR A n c l w hi (by omega) hw)
  have CW := Lib.hid (ct_ways l v h p)
  have CN := Lib.hid (fun V (hv : Bel w V) => copy A n c l V (hi.bel hv) (by omega))
  have IV := Lib.hid (fun V => isValidator v V)
  have IH := Lib.hid (fun V => heightR h V)
  obtain ⟨e1, he1⟩ : ∃ e, (chk l).1 = e := ⟨_, rfl⟩
  obtain ⟨e2, he2⟩ : ∃ e, (chk l).2 = e := ⟨_, rfl⟩
  have H1 := Lib.hid he1
  rw [he1, he2] at CK
  rw [he1] at CW
  clear hi he1 he2 hw hp
  go_enter Try.func21, Try.ntmps21
  go_wp2_with fail
  refine CK.out.mono ?_
  rintro x w1 ⟨rfl, kb⟩
  have K1 := Lib.hid kb
  clear kb CK
  by_cases h0 : e1 = 0
  case neg =>
    have hne : (e1 != 0) = true := by rw [bne_iff_ne]; exact h0
    have HE := Lib.hid (CW.out.1 h0)
    have H0 := Lib.hid h0
    clear h0 CW
    go_wp2_with fail
    ((try simp only [Exit.inBlock, Exit.then]); refine bodyPost_ret (results_tmp4 rfl _ _ _) rfl ?_)
    exact cutR_no K1.out HE.out H0.out
  subst h0
  by_cases hv0 : 0 ≤ v
  case neg =>
    have HE := Lib.hid (CW.out.2.1 rfl (fun h => hv0 h.1))
    have hv1 : v < 0 := by omega
    clear CW
    go_wp2_with fail
    ((try simp only [Exit.inBlock, Exit.then]); refine bodyPost_ret (results_tmp4 rfl _ _ _) rfl ?_)
    exact cutR_no K1.out HE.out (by decide)
  by_cases hv3 : v < 32
  case neg =>
    have HE := Lib.hid (CW.out.2.1 rfl (fun h => hv3 h.2.1))
    have hv1 : ¬ v < 0 := by omega
    have hv2 : 32 ≤ v := by omega
    clear CW
    go_wp2_with fail
    ((try simp only [Exit.inBlock, Exit.then]); refine bodyPost_ret (results_tmp4 rfl _ _ _) rfl ?_)
    exact cutR_no K1.out HE.out (by decide)
  have hv : 0 ≤ v ∧ v < 32 := ⟨hv0, hv3⟩
  have hv1 : ¬ v < 0 := by omega
  have hv2 : ¬ 32 ≤ v := by omega
  by_cases hh : 1 ≤ h ∧ h ≤ 4294967296
  case neg =>
    have HE := Lib.hid (CW.out.2.1 rfl (fun h => hh ⟨h.2.2.1, h.2.2.2.1⟩))
    have ih := IH.out w1
    rw [decide_eq_false hh] at ih
    clear CW
    go_wp2_with fail
    refine ih.mono ?_
    rintro e w2 ⟨rfl, rfl⟩
    clear ih
    go_wp2_with fail
    ((try simp only [Exit.inBlock, Exit.then]); refine bodyPost_ret (results_tmp4 rfl _ _ _) rfl ?_)
    exact cutR_no K1.out HE.out (by decide)
  have ih := IH.out w1
  rw [decide_eq_true hh] at ih
  by_cases hpp : p ≤ 1000000000
  case neg =>
    have HE := Lib.hid (CW.out.2.1 rfl (fun h => hpp h.2.2.2.2))
    have hp1 : 1000000000 < p := by omega
    clear CW
    go_wp2_with fail
    refine ih.mono ?_
    rintro e w2 ⟨rfl, rfl⟩
    clear ih
    go_wp2_with fail
    ((try simp only [Exit.inBlock, Exit.then]); refine bodyPost_ret (results_tmp4 rfl _ _ _) rfl ?_)
    exact cutR_no K1.out HE.out (by decide)
  have hp1 : ¬ 1000000000 < p := by omega
  have HE := Lib.hid (CW.out.2.2 rfl ⟨hv.1, hv.2, hh.1, hh.2, hpp⟩)
  have HB := Lib.hid (show (0 ≤ v ∧ v < 32) ∧ (1 ≤ h ∧ h ≤ 4294967296) ∧ p ≤ 1000000000 from ⟨hv, hh, hpp⟩)
  have HOK := Lib.hid (chk_ok.1 H1.out)
  have CN := Lib.hid (CN.out w1 K1.out)
  clear CW hv hh hpp IV IH hv0 hv3
  go_wp2_with fail
  refine ih.mono ?_
  rintro e w2 ⟨rfl, rfl⟩
  clear ih
  go_wp2_with fail
  refine CN.out.mono ?_
  rintro x w2 ⟨vc, rfl, ho, kb⟩
  obtain ⟨Ac, cc, rfl, hrs⟩ := ho.slice
  rw [HLN.out] at ho ⊢
  have K2 := Lib.hid (K1.out.trans kb)
  have HO := Lib.hid (ho.mono (Below.size K1.out))
  clear kb ho hrs CN
  go_wp2_with fail
  go_loopw [15, 16, 17] (fun s15 s16 s17 wr => ∃ (k : Nat) (t : Int), k ≤ n ∧ s17 = .int .i64 k ∧ s16 = .int .u64 t ∧ Hid (lost v h p (l.take k) = t) ∧ Hid (OwnE wr w.heap.size (.slice Ac n cc) (curL l v h p k)) ∧ Hid (OwnS wr w.heap.size s15 (shv v h p 0 (l.take k))) ∧ Hid (Bel w wr)) (fun _ _ s17 _ => n - (intOf s17).toNat)
  case atStart => exact ⟨0, 0, Nat.zero_le _, rfl, rfl, Lib.hid rfl, Lib.hid (by rw [cur_zero]; exact HO.out), Lib.hid (Rw.OwnR.nil_ _ _ _ _), K2⟩
  case round =>
    obtain ⟨k, t, hk, rfl, rfl, ht, ho, hs, hb⟩ := hrel
    by_cases hlt : k < n
    · obtain ⟨⟨r1, r2, r3, r4, r5, r6, r7, r8⟩, hr⟩ := HI.out.get hlt
      obtain ⟨g, cap_, e, hge, hrb, hcm⟩ := Rw.rb_own eR ho.out (by rw [cur_len (by rw [HLN.out]; omega), HLN.out]; omega)
      rw [cur_len (by rw [HLN.out]; omega), HLN.out] at e
      injection e with ea eb ec
      subst ea ec
      have HRB := Lib.hid hrb
      have HGE := Lib.hid hge
      have HCM := Lib.hid hcm
      have HR := Lib.hid hr
      have HM := Lib.hid ((may_iff r1 r2 r3 r4 r5 r6 r7 r8).1 (srt_le l 0 HOK.out.2.1 _ (List.mem_of_getElem? hr)).1)
      have HN8 := Lib.hid (show 0 ≤ r8 ∧ r8 ≤ 18446744073709551615 from HW.out.at hr)
      have HRNG := Lib.hid (rb_rng hrb (cur_at hr))
      obtain ⟨ab, ao, rfl, hab, hrow⟩ := (HI.out.bel hb.out).at hlt hr
      have HROW := Lib.hid (show wr.rangeAt ab (ao + k * 8) [.int .i64 r1, .int .i64 r2, .int .i64 r3, .int .i64 r4, .int .i64 r5, .int .i64 r6, .int .u64 r7, .int .u64 r8] from hrow)
      clear hrow hab
      have BK := Lib.hid (fun V => backedR r2 r3 r4 r5 v h r6 V HM.out.2.1 HB.out.1.1 HM.out.2.2.1.1)
      have HLS := Lib.hid (lost_next v h p hr)
      have HSN := Lib.hid (shv_next v h p hr)
      have hlt3 : (k : Int) < n := by omega
      have hlt0 : (0 : Int) ≤ k := by omega
      obtain ⟨b, hbk⟩ : ∃ b, Sm.bkB r2 r3 r4 r5 v h r6 = b := ⟨_, rfl⟩
      have HBK := Lib.hid hbk
      rw [hbk] at BK
      have HLS := Lib.hid (show lost v h p (l.take (k + 1)) = t + (if b = true then r8 * p / 1000000000 else 0) by rw [HLS.out, ht.out, ← hbk]; rfl)
      have HSN := Lib.hid (show shv v h p 0 (l.take (k + 1)) = shv v h p 0 (l.take k) ++ (if b = true then [((k : Int), r8 * p / 1000000000)] else []) by rw [HSN.out, ← hbk]; rfl)
      clear hr hrb hge hcm hbk
      cases b with
      | false =>
        have S1 := Lib.hid (show OwnE wr w.heap.size (.slice (some ⟨g, 0, none⟩) n cc) (curL l v h p (k + 1)) by rw [cur_same HR.out (cutX_no HBK.out)]; exact ho.out)
        have S2 := Lib.hid (show shv v h p 0 (l.take (k + 1)) = shv v h p 0 (l.take k) by rw [HSN.out]; simp)
        have S3 := Lib.hid (show lost v h p (l.take (k + 1)) = t by rw [HLS.out]; simp)
        clear HLS HSN
        go_upto_region 12 with fail
        refine wp_region_held_drew (S := fun Vx => Bel wr Vx) (by kernel_rfl) (Bel.refl _).drew (fun hS0 => ?_)
        obtain ⟨w6, hw6⟩ : ∃ w6, World.drew wr = w6 := ⟨_, rfl⟩
        rw [hw6] at hS0 ⊢
        clear hw6
        refine wpAnyH_take (i := 0) (oi := { dst := some 51, op := .move (.tmp 0), type := 22, pos := "ref.go:134", after := #[], guard := none }) (v := .slice (some ⟨ab, ao, none⟩) n c) rfl (by kernel_rfl) (by kernel_rfl) (by kernel_rfl) (fun _ _ _ h => h) (Or.inl ⟨by rfl, by intro w hSw; clear hSw; go_simp⟩) hS0 ?_
        try simp only [Act.put, List.setIfInBounds_toArray, List.set_cons_zero, List.set_cons_succ]
        refine wpAnyH_take (i := 1) (oi := { dst := some 52, op := .move (.tmp 17), type := 3, pos := "ref.go:134", after := #[], guard := none }) (v := .int .i64 k) rfl (by kernel_rfl) (by kernel_rfl) (by kernel_rfl) (fun _ _ _ h => h) (Or.inl ⟨by rfl, by intro w hSw; clear hSw; go_simp⟩) hS0 ?_
        try simp only [Act.put, List.setIfInBounds_toArray, List.set_cons_zero, List.set_cons_succ]
        refine wpAnyH_take (i := 2) (oi := { dst := some 53, op := .indexAddr 22 (.tmp 51) (.tmp 52), type := 0, pos := "ref.go:134", after := #[{ on := 0, ground := .data }, { on := 1, ground := .data }], guard := none }) (v := .pointer (some ⟨ab, ao + k * 8, none⟩)) rfl (by kernel_rfl) (by kernel_rfl) (by kernel_rfl) (fun _ _ _ h => h) (Or.inl ⟨by rfl, by intro w hSw; clear hSw; go_simp⟩) hS0 ?_
        try simp only [Act.put, List.setIfInBounds_toArray, List.set_cons_zero, List.set_cons_succ]
        refine wpAnyH_take (i := 3) (oi := { dst := some 54, op := .fieldAddr 27 (.tmp 53) 1, type := 0, pos := "ref.go:134", after := #[{ on := 2, ground := .data }], guard := none }) (v := .pointer (some ⟨ab, ao + k * 8 + 1, none⟩)) rfl (by kernel_rfl) (by kernel_rfl) (by kernel_rfl) (fun _ _ _ h => h) (Or.inl ⟨by rfl, by intro w hSw; clear hSw; go_simp⟩) hS0 ?_
        try simp only [Act.put, List.setIfInBounds_toArray, List.set_cons_zero, List.set_cons_succ]
        refine wpAnyH_take (i := 4) (oi := { dst := some 55, op := .load 24 (.tmp 54), type := 24, pos := "ref.go:134", after := #[{ on := 3, ground := .data }], guard := none }) (v := .agg #[.int .i64 r2, .int .i64 r3, .int .i64 r4, .int .i64 r5]) rfl (by kernel_rfl) (by kernel_rfl) (by kernel_rfl) (fun _ _ _ h => h) (yieldsIf_load_mid (by rfl) _ _ rfl _ _ rfl _ _ (fun w h => Pm.rng_bel (rng_st HROW.out) h) Try.underlying24 rfl info_St) hS0 ?_
        try simp only [Act.put, List.setIfInBounds_toArray, List.set_cons_zero, List.set_cons_succ]
        refine wpAnyH_take (i := 5) (oi := { dst := some 56, op := .move (.tmp 1), type := 3, pos := "ref.go:134", after := #[], guard := none }) (v := .int .i64 v) rfl (by kernel_rfl) (by kernel_rfl) (by kernel_rfl) (fun _ _ _ h => h) (Or.inl ⟨by rfl, by intro w hSw; clear hSw; go_simp⟩) hS0 ?_
        try simp only [Act.put, List.setIfInBounds_toArray, List.set_cons_zero, List.set_cons_succ]
        refine wpAnyH_take (i := 6) (oi := { dst := some 57, op := .move (.tmp 2), type := 3, pos := "ref.go:134", after := #[], guard := none }) (v := .int .i64 h) rfl (by kernel_rfl) (by kernel_rfl) (by kernel_rfl) (fun _ _ _ h => h) (Or.inl ⟨by rfl, by intro w hSw; clear hSw; go_simp⟩) hS0 ?_
        try simp only [Act.put, List.setIfInBounds_toArray, List.set_cons_zero, List.set_cons_succ]
        refine wpAnyH_take (i := 7) (oi := { dst := some 58, op := .move (.tmp 0), type := 22, pos := "ref.go:134", after := #[], guard := none }) (v := .slice (some ⟨ab, ao, none⟩) n c) rfl (by kernel_rfl) (by kernel_rfl) (by kernel_rfl) (fun _ _ _ h => h) (Or.inl ⟨by rfl, by intro w hSw; clear hSw; go_simp⟩) hS0 ?_
        try simp only [Act.put, List.setIfInBounds_toArray, List.set_cons_zero, List.set_cons_succ]
        refine wpAnyH_take (i := 8) (oi := { dst := some 59, op := .move (.tmp 17), type := 3, pos := "ref.go:134", after := #[], guard := none }) (v := .int .i64 k) rfl (by kernel_rfl) (by kernel_rfl) (by kernel_rfl) (fun _ _ _ h => h) (Or.inl ⟨by rfl, by intro w hSw; clear hSw; go_simp⟩) hS0 ?_
        try simp only [Act.put, List.setIfInBounds_toArray, List.set_cons_zero, List.set_cons_succ]
        refine wpAnyH_take (i := 9) (oi := { dst := some 60, op := .indexAddr 22 (.tmp 58) (.tmp 59), type := 0, pos := "ref.go:134", after := #[{ on := 7, ground := .data }, { on := 8, ground := .data }], guard := none }) (v := .pointer (some ⟨ab, ao + k * 8, none⟩)) rfl (by kernel_rfl) (by kernel_rfl) (by kernel_rfl) (fun _ _ _ h => h) (Or.inl ⟨by rfl, by intro w hSw; clear hSw; go_simp⟩) hS0 ?_
        try simp only [Act.put, List.setIfInBounds_toArray, List.set_cons_zero, List.set_cons_succ]
        refine wpAnyH_take (i := 10) (oi := { dst := some 61, op := .fieldAddr 27 (.tmp 60) 2, type := 0, pos := "ref.go:134", after := #[{ on := 9, ground := .data }], guard := none }) (v := .pointer (some ⟨ab, ao + k * 8 + 5, none⟩)) rfl (by kernel_rfl) (by kernel_rfl) (by kernel_rfl) (fun _ _ _ h => h) (Or.inl ⟨by rfl, by intro w hSw; clear hSw; go_simp⟩) hS0 ?_
        try simp only [Act.put, List.setIfInBounds_toArray, List.set_cons_zero, List.set_cons_succ]
        refine wpAnyH_take (i := 11) (oi := { dst := some 62, op := .load 3 (.tmp 61), type := 3, pos := "ref.go:134", after := #[{ on := 10, ground := .data }], guard := none }) (v := .int .i64 r6) rfl (by kernel_rfl) (by kernel_rfl) (by kernel_rfl) (fun _ _ _ h => h) (Or.inl ⟨by rfl, by intro w h; have hcell := ((rng8 (Pm.rng_bel HROW.out h)).2.2.2.2.2.1); clear h; go_simp⟩) hS0 ?_
        try simp only [Act.put, List.setIfInBounds_toArray, List.set_cons_zero, List.set_cons_succ]
        refine wpAnyH_ready (rs := [12]) (by kernel_rfl) (by simp) ?_
        refine AllReadyH.cons (o := { dst := some 63, op := .call { callee := .value (.func 54), args := #[.tmp 55, .tmp 56, .tmp 57, .tmp 62], argTypes := #[24, 3, 3, 3] }, type := 4, pos := "ref.go:134", after := #[{ on := 4, ground := .data }, { on := 5, ground := .data }, { on := 6, ground := .data }, { on := 11, ground := .data }], guard := none }) rfl (fun K hK => ?_) AllReadyH.nil
        go_simp
        refine (BK.out _).mono ?_
        rintro e v1 ⟨rfl, kb⟩
        go_wp2_with fail
        refine hK.out _ _ (hS0.trans kb) (fun hS1 => ?_)
        clear hK K
        try simp only [Act.put, List.setIfInBounds_toArray, List.set_cons_zero, List.set_cons_succ]
        refine wpAnyH_take (i := 13) (oi := { dst := some 64, op := .unOp .not 4 (.tmp 63), type := 4, pos := "ref.go:134", after := #[{ on := 12, ground := .data }], guard := none }) (v := .bool true) rfl (by kernel_rfl) (by kernel_rfl) (by kernel_rfl) (fun _ _ _ h => h) (Or.inl ⟨by rfl, by intro w hSw; clear hSw; go_simp⟩) hS1 ?_
        try simp only [Act.put, List.setIfInBounds_toArray, List.set_cons_zero, List.set_cons_succ]
        refine wpAnyH_done (by kernel_rfl) ?_ _
        have HS5 := Lib.hid hS1
        clear hS1
        go_wp2_with fail
        go_roundw
        case rel => exact ⟨k + 1, t, by omega, by go_num, rfl, S3, Lib.hid (S1.out.bel HS5.out), Lib.hid (by rw [S2.out]; exact hs.out.bel HS5.out), Lib.hid (hb.out.trans HS5.out)⟩
        case measure => simp [intOf]; omega
      | true =>
        have HSN1 := Lib.hid (show shv v h p 0 (l.take (k + 1)) = shv v h p 0 (l.take k) ++ [((k : Int), r8 * p / 1000000000)] from HSN.out)
        have HLS1 := Lib.hid (show lost v h p (l.take (k + 1)) = t + r8 * p / 1000000000 from HLS.out)
        clear HSN HLS
        have HPR := Lib.hid (prt_le HN8.out.1 HP.out.1 HB.out.2.2)
        have HPO := Lib.hid (part_of HN8.out.1 HN8.out.2 HP.out.1 HB.out.2.2)
        have PT := Lib.hid (fun V => Ref.part r8 p V HN8.out.1 HN8.out.2 HP.out.1 HP.out.2)
        rw [HPO.out.1, HPO.out.2] at PT
        have HLT := Lib.hid (lost_take (v := v) (h := h) HP.out.1 HB.out.2.2 HW.out (k + 1))
        rw [HLS1.out] at HLT
        have HSET := Lib.hid (show cutX v h p (r1, r2, r3, r4, r5, r6, r7, r8) = (r1, r2, r3, r4, r5, r6, r7, r8 - r8 * p / 1000000000) from cutX_yes HBK.out)
        have HT0 := Lib.hid (lost_take (v := v) (h := h) HP.out.1 HB.out.2.2 HW.out k)
        rw [ht.out] at HT0
        obtain ⟨q, hq⟩ : ∃ q, r8 * p / 1000000000 = q := ⟨_, rfl⟩
        rw [hq] at HSN1 HLS1 HPR PT HLT HSET
        have hw1 : IntKind.u64.wrap (r8 - q) = r8 - q := IntWalk.u64_in _ (by have := HPR.out; have := HN8.out; omega)
        have hw2 : IntKind.u64.wrap (t + q) = t + q := IntWalk.u64_in _ (by have := HLT.out; have := HOK.out.2.2; have := HPR.out; have := HT0.out; omega)
        have HLL := Lib.hid (show (shv v h p 0 (l.take k)).length ≤ 1000000 from Nat.le_trans (shv_len _ _ _ _ _) (by rw [List.length_take]; omega))
        clear hq HPO HLT HT0
        go_upto_region 12 with fail
        refine wp_region_held_drew (S := fun Vx => Bel wr Vx) (by kernel_rfl) (Bel.refl _).drew (fun hS0 => ?_)
        obtain ⟨w6, hw6⟩ : ∃ w6, World.drew wr = w6 := ⟨_, rfl⟩
        rw [hw6] at hS0 ⊢
        clear hw6
        refine wpAnyH_take (i := 0) (oi := { dst := some 51, op := .move (.tmp 0), type := 22, pos := "ref.go:134", after := #[], guard := none }) (v := .slice (some ⟨ab, ao, none⟩) n c) rfl (by kernel_rfl) (by kernel_rfl) (by kernel_rfl) (fun _ _ _ h => h) (Or.inl ⟨by rfl, by intro w hSw; clear hSw; go_simp⟩) hS0 ?_
        try simp only [Act.put, List.setIfInBounds_toArray, List.set_cons_zero, List.set_cons_succ]
        refine wpAnyH_take (i := 1) (oi := { dst := some 52, op := .move (.tmp 17), type := 3, pos := "ref.go:134", after := #[], guard := none }) (v := .int .i64 k) rfl (by kernel_rfl) (by kernel_rfl) (by kernel_rfl) (fun _ _ _ h => h) (Or.inl ⟨by rfl, by intro w hSw; clear hSw; go_simp⟩) hS0 ?_
        try simp only [Act.put, List.setIfInBounds_toArray, List.set_cons_zero, List.set_cons_succ]
        refine wpAnyH_take (i := 2) (oi := { dst := some 53, op := .indexAddr 22 (.tmp 51) (.tmp 52), type := 0, pos := "ref.go:134", after := #[{ on := 0, ground := .data }, { on := 1, ground := .data }], guard := none }) (v := .pointer (some ⟨ab, ao + k * 8, none⟩)) rfl (by kernel_rfl) (by kernel_rfl) (by kernel_rfl) (fun _ _ _ h => h) (Or.inl ⟨by rfl, by intro w hSw; clear hSw; go_simp⟩) hS0 ?_
        try simp only [Act.put, List.setIfInBounds_toArray, List.set_cons_zero, List.set_cons_succ]
        refine wpAnyH_take (i := 3) (oi := { dst := some 54, op := .fieldAddr 27 (.tmp 53) 1, type := 0, pos := "ref.go:134", after := #[{ on := 2, ground := .data }], guard := none }) (v := .pointer (some ⟨ab, ao + k * 8 + 1, none⟩)) rfl (by kernel_rfl) (by kernel_rfl) (by kernel_rfl) (fun _ _ _ h => h) (Or.inl ⟨by rfl, by intro w hSw; clear hSw; go_simp⟩) hS0 ?_
        try simp only [Act.put, List.setIfInBounds_toArray, List.set_cons_zero, List.set_cons_succ]
        refine wpAnyH_take (i := 4) (oi := { dst := some 55, op := .load 24 (.tmp 54), type := 24, pos := "ref.go:134", after := #[{ on := 3, ground := .data }], guard := none }) (v := .agg #[.int .i64 r2, .int .i64 r3, .int .i64 r4, .int .i64 r5]) rfl (by kernel_rfl) (by kernel_rfl) (by kernel_rfl) (fun _ _ _ h => h) (yieldsIf_load_mid (by rfl) _ _ rfl _ _ rfl _ _ (fun w h => Pm.rng_bel (rng_st HROW.out) h) Try.underlying24 rfl info_St) hS0 ?_
        try simp only [Act.put, List.setIfInBounds_toArray, List.set_cons_zero, List.set_cons_succ]
        refine wpAnyH_take (i := 5) (oi := { dst := some 56, op := .move (.tmp 1), type := 3, pos := "ref.go:134", after := #[], guard := none }) (v := .int .i64 v) rfl (by kernel_rfl) (by kernel_rfl) (by kernel_rfl) (fun _ _ _ h => h) (Or.inl ⟨by rfl, by intro w hSw; clear hSw; go_simp⟩) hS0 ?_
        try simp only [Act.put, List.setIfInBounds_toArray, List.set_cons_zero, List.set_cons_succ]
        refine wpAnyH_take (i := 6) (oi := { dst := some 57, op := .move (.tmp 2), type := 3, pos := "ref.go:134", after := #[], guard := none }) (v := .int .i64 h) rfl (by kernel_rfl) (by kernel_rfl) (by kernel_rfl) (fun _ _ _ h => h) (Or.inl ⟨by rfl, by intro w hSw; clear hSw; go_simp⟩) hS0 ?_
        try simp only [Act.put, List.setIfInBounds_toArray, List.set_cons_zero, List.set_cons_succ]
        refine wpAnyH_take (i := 7) (oi := { dst := some 58, op := .move (.tmp 0), type := 22, pos := "ref.go:134", after := #[], guard := none }) (v := .slice (some ⟨ab, ao, none⟩) n c) rfl (by kernel_rfl) (by kernel_rfl) (by kernel_rfl) (fun _ _ _ h => h) (Or.inl ⟨by rfl, by intro w hSw; clear hSw; go_simp⟩) hS0 ?_
        try simp only [Act.put, List.setIfInBounds_toArray, List.set_cons_zero, List.set_cons_succ]
        refine wpAnyH_take (i := 8) (oi := { dst := some 59, op := .move (.tmp 17), type := 3, pos := "ref.go:134", after := #[], guard := none }) (v := .int .i64 k) rfl (by kernel_rfl) (by kernel_rfl) (by kernel_rfl) (fun _ _ _ h => h) (Or.inl ⟨by rfl, by intro w hSw; clear hSw; go_simp⟩) hS0 ?_
        try simp only [Act.put, List.setIfInBounds_toArray, List.set_cons_zero, List.set_cons_succ]
        refine wpAnyH_take (i := 9) (oi := { dst := some 60, op := .indexAddr 22 (.tmp 58) (.tmp 59), type := 0, pos := "ref.go:134", after := #[{ on := 7, ground := .data }, { on := 8, ground := .data }], guard := none }) (v := .pointer (some ⟨ab, ao + k * 8, none⟩)) rfl (by kernel_rfl) (by kernel_rfl) (by kernel_rfl) (fun _ _ _ h => h) (Or.inl ⟨by rfl, by intro w hSw; clear hSw; go_simp⟩) hS0 ?_
        try simp only [Act.put, List.setIfInBounds_toArray, List.set_cons_zero, List.set_cons_succ]
        refine wpAnyH_take (i := 10) (oi := { dst := some 61, op := .fieldAddr 27 (.tmp 60) 2, type := 0, pos := "ref.go:134", after := #[{ on := 9, ground := .data }], guard := none }) (v := .pointer (some ⟨ab, ao + k * 8 + 5, none⟩)) rfl (by kernel_rfl) (by kernel_rfl) (by kernel_rfl) (fun _ _ _ h => h) (Or.inl ⟨by rfl, by intro w hSw; clear hSw; go_simp⟩) hS0 ?_
        try simp only [Act.put, List.setIfInBounds_toArray, List.set_cons_zero, List.set_cons_succ]
        refine wpAnyH_take (i := 11) (oi := { dst := some 62, op := .load 3 (.tmp 61), type := 3, pos := "ref.go:134", after := #[{ on := 10, ground := .data }], guard := none }) (v := .int .i64 r6) rfl (by kernel_rfl) (by kernel_rfl) (by kernel_rfl) (fun _ _ _ h => h) (Or.inl ⟨by rfl, by intro w h; have hcell := ((rng8 (Pm.rng_bel HROW.out h)).2.2.2.2.2.1); clear h; go_simp⟩) hS0 ?_
        try simp only [Act.put, List.setIfInBounds_toArray, List.set_cons_zero, List.set_cons_succ]
        refine wpAnyH_ready (rs := [12]) (by kernel_rfl) (by simp) ?_
        refine AllReadyH.cons (o := { dst := some 63, op := .call { callee := .value (.func 54), args := #[.tmp 55, .tmp 56, .tmp 57, .tmp 62], argTypes := #[24, 3, 3, 3] }, type := 4, pos := "ref.go:134", after := #[{ on := 4, ground := .data }, { on := 5, ground := .data }, { on := 6, ground := .data }, { on := 11, ground := .data }], guard := none }) rfl (fun K hK => ?_) AllReadyH.nil
        go_simp
        refine (BK.out _).mono ?_
        rintro e v1 ⟨rfl, kb⟩
        go_wp2_with fail
        refine hK.out _ _ (hS0.trans kb) (fun hS1 => ?_)
        clear hK K
        try simp only [Act.put, List.setIfInBounds_toArray, List.set_cons_zero, List.set_cons_succ]
        refine wpAnyH_take (i := 13) (oi := { dst := some 64, op := .unOp .not 4 (.tmp 63), type := 4, pos := "ref.go:134", after := #[{ on := 12, ground := .data }], guard := none }) (v := .bool false) rfl (by kernel_rfl) (by kernel_rfl) (by kernel_rfl) (fun _ _ _ h => h) (Or.inl ⟨by rfl, by intro w hSw; clear hSw; go_simp⟩) hS1 ?_
        try simp only [Act.put, List.setIfInBounds_toArray, List.set_cons_zero, List.set_cons_succ]
        refine wpAnyH_done (by kernel_rfl) ?_ _
        have HS5 := Lib.hid hS1
        have HRB5 := Lib.hid (HRB.out.bel hS1)
        have HS_ := Lib.hid (hs.out.bel hS1)
        have HB5 := Lib.hid (hb.out.trans hS1)
        clear hS1 BK
        obtain ⟨w5, hw5⟩ : ∃ w5, v1 = w5 := ⟨_, rfl⟩
        rw [hw5] at HRB5 HS_ HB5 HS5 ⊢
        clear hw5
        have PT := Lib.hid (PT.out w5)
        have pc7 := (rng8 (Pm.rng_bel HROW.out HS5.out)).2.2.2.2.2.2.2
        go_wp2_with fail
        refine PT.out.mono ?_
        rintro e w6 ⟨rfl, kb⟩
        have kb : Bel w5 w6 := by rw [kb]; exact Bel.refl _
        have HRB6 := Lib.hid (HRB5.out.bel kb)
        have HS6 := Lib.hid (HS_.out.bel kb)
        have HB6 := Lib.hid (HB5.out.trans kb)
        have HS5 := Lib.hid (HS5.out.trans kb)
        clear PT pc7 kb
        have HRNG6 := Lib.hid (rb_rng HRB6.out (cur_at HR.out))
        have lc7 := (rng8 (Pm.rng_bel HROW.out HS5.out)).2.2.2.2.2.2.2
        have hfz := HRB6.out.frozen (k * 8 + 7)
        have there_ := (rng8 HRNG6.out).2.2.2.2.2.2.2
        have STEP : OwnE (w6.setCell ⟨g, k * 8 + 7, none⟩ (.int .u64 (r8 - q))) w.heap.size (.slice (some ⟨g, 0, none⟩) n cc) (curL l v h p (k + 1)) ∧ OwnS (w6.setCell ⟨g, k * 8 + 7, none⟩ (.int .u64 (r8 - q))) w.heap.size u15 (shv v h p 0 (l.take k)) ∧ Bel w (w6.setCell ⟨g, k * 8 + 7, none⟩ (.int .u64 (r8 - q))) := by
          have h1 := HRB6.out.set (o := 7) (r' := (r1, r2, r3, r4, r5, r6, r7, r8 - q)) (v := .int .u64 (r8 - q)) (by decide) (cur_at HR.out) rfl
          rw [← HSET.out, cur_set HR.out] at h1
          have h2 := own_rb h1 HGE.out HCM.out
          rw [cur_len (by rw [HLN.out]; omega), HLN.out] at h2
          refine ⟨h2, HS6.out.kep (S := fun b => b = g) (Kep.set_self (Kep.refl _ _) _ _) (fun i e e' => ?_), HB6.out.set HGE.out _⟩
          obtain ⟨C, hC, _⟩ := HRB6.out.blk
          subst e'
          exact Rw.own_ne HS6.out hC (by decide) e
        obtain ⟨W1, hW1⟩ : ∃ W, w6.setCell ⟨g, k * 8 + 7, none⟩ (.int .u64 (r8 - q)) = W := ⟨_, rfl⟩
        rw [hW1] at STEP
        have HW1 := Lib.hid hW1
        have S1 := Lib.hid STEP.1
        have S2 := Lib.hid (STEP.2.1.bel ((Bel.refl W1).alloc (.cells #[.int .i64 k, .int .u64 q] 68)))
        have S3 := Lib.hid STEP.2.2
        have HX := Lib.hid (Rw.rs_one sR (r := ((k : Int), q)) (Blk.new W1 #[.int .i64 k, .int .u64 q] 68))
        have HSZ := Lib.hid (Below.size S3.out)
        clear STEP hW1
        go_upto_region 15 with fail
        rw [HW1.out]
        clear hfz there_ lc7
        go_wp2_with (at_builtin; refine Rw.append_R sR rfl _ _ _ 68 rfl underS zero_S rfl (by decide) w.heap.size _ (shv v h p 0 (l.take k)) rfl S2.out (some ⟨W1.heap.size, 0, none⟩) 1 1 [((k : Int), q)] rfl HX.out (by have := HLL.out; omega) (by have := HSZ.out; simp; omega) ?_; intro v9 w9 hown' hgrow)
        have hgrow : World.grownBy _ w9 (Value.ownBlock u15) := hgrow
        have T2 := Lib.hid hown'
        have T3 := Lib.hid (show Bel w w9 from Kk.Bel.grown (S3.out.alloc _) hgrow (fun k hk => (S2.out.lt k hk).1))
        have T1 := Lib.hid (show OwnE w9 w.heap.size (.slice (some ⟨g, 0, none⟩) n cc) (curL l v h p (k + 1)) from (S1.out.bel ((Bel.refl W1).alloc (.cells #[.int .i64 k, .int .u64 q] 68))).kept hgrow (.inr (fun e => Rw.own_ne2 S2.out (S1.out.bel ((Bel.refl W1).alloc (.cells #[.int .i64 k, .int .u64 q] 68))) (by decide) g e.symm rfl)))
        have T4 := Lib.hid (show OwnS w9 w.heap.size v9 (shv v h p 0 (l.take (k + 1))) by rw [HSN1.out]; exact T2.out)
        have T5 := Lib.hid HLS1.out
        clear hown' hgrow
        go_wp2_with fail
        go_roundw
        case rel => exact ⟨k + 1, t + q, by omega, by go_num, rfl, T5, T1, T4, T3⟩
        case measure => simp [intOf]; omega
    · obtain rfl : k = n := by omega
      go_wp2_with fail
      (try rw [Exit.noGoto_ret])
      ((try simp only [Exit.inBlock, Exit.then]); refine bodyPost_ret (results_tmp4 rfl _ _ _) rfl ?_)
      refine ⟨_, _, by rw [HE.out]; unfold ctN; rw [if_pos HE.out, ← ht.out, List.take_of_length_le (by rw [HLN.out]; exact Nat.le_refl _)]; rfl, ?_, ?_, hb.out⟩
      · unfold ctL
        rw [if_pos HE.out, ← cur_end, HLN.out]
        exact ho.out
      · unfold ctS
        rw [if_pos HE.out]
        have := hs.out
        rw [List.take_of_length_le (by rw [HLN.out]; exact Nat.le_refl _)] at this
        exact this
end Qu
end Go.Proofs.Ytdpompponngmdaa
end

section
/-
  What follows of queues: the ripe ones are a beginning; what was added; a cut behind a cut. No program.
-/
namespace Go.Proofs.Ytdpompponngmdaa
open Go.RowKit Go.Shelf
set_option linter.unusedVariables false
set_option linter.unusedSimpArgs false
set_option Elab.async false
namespace Qu

theorem rip_cons_le {y : E8} {l : List E8} {m : Int} (h : cr y ≤ m) : rip (y :: l) m = y :: rip l m := List.filter_cons_of_pos (by simpa using h)
theorem lft_cons_le {y : E8} {l : List E8} {m : Int} (h : cr y ≤ m) : lft (y :: l) m = lft l m := List.filter_cons_of_neg (by simp; omega)
theorem rip_all_gt {l : List E8} {m : Int} (h : ∀ r ∈ l, m < cr r) : rip l m = [] := List.filter_eq_nil_iff.2 (fun r hr => by have := h r hr; simp; omega)
theorem lft_all_gt {l : List E8} {m : Int} (h : ∀ r ∈ l, m < cr r) : lft l m = l := List.filter_eq_self.2 (fun r hr => decide_eq_true (h r hr))
theorem srt_gt {y : E8} {l : List E8} {b m : Int} (hs : Srt b (y :: l)) (h : m < cr y) : ∀ r ∈ y :: l, m < cr r := fun r hr => by
  rcases List.mem_cons.1 hr with rfl | hr
  · exact h
  · have := (srt_le l (cr y) hs.2.2 r hr).2
    omega
theorem rip_lft : ∀ (l : List E8) (b m : Int), Srt b l → rip l m ++ lft l m = l
  | [], _, _, _ => rfl
  | y :: l, b, m, hs => by
    rcases Int.lt_or_le m (cr y) with h | h
    · rw [rip_all_gt (srt_gt hs h), lft_all_gt (srt_gt hs h)]; rfl
    · rw [rip_cons_le h, lft_cons_le h]
      show y :: (rip l m ++ lft l m) = _
      rw [rip_lft l (cr y) m hs.2.2]
theorem rip_iff {l : List E8} {b m : Int} (hs : Srt b l) {i : Nat} {r : E8} (hr : l[i]? = some r) : i < (rip l m).length ↔ cr r ≤ m := by
  have e := rip_lft l b m hs
  constructor
  · intro hi
    rw [← e, List.getElem?_append_left hi] at hr
    have := List.mem_filter.1 (List.mem_of_getElem? hr)
    simpa using this.2
  · intro hm
    rcases Nat.lt_or_ge i (rip l m).length with hi | hi
    · exact hi
    · rw [← e, List.getElem?_append_right hi] at hr
      have := (List.mem_filter.1 (List.mem_of_getElem? hr)).2
      simp at this
      omega
theorem srt_lft : ∀ (l : List E8) (b m : Int), Srt b l → Srt b (lft l m)
  | [], _, _, _ => trivial
  | y :: l, b, m, hs => by
    rcases Int.lt_or_le m (cr y) with h | h
    · rw [lft_all_gt (srt_gt hs h)]; exact hs
    · rw [lft_cons_le h]
      have h2 := srt_lft l (cr y) m hs.2.2
      cases hl : lft l m with
      | nil => trivial
      | cons z t =>
        rw [hl] at h2
        exact ⟨h2.1, Int.le_trans hs.2.1 h2.2.1, h2.2.2⟩
theorem srt_rip : ∀ (l : List E8) (b m : Int), Srt b l → Srt b (rip l m)
  | [], _, _, _ => trivial
  | y :: l, b, m, hs => by
    rcases Int.lt_or_le m (cr y) with h | h
    · rw [rip_all_gt (srt_gt hs h)]; trivial
    · rw [rip_cons_le h]
      exact ⟨hs.1, hs.2.1, srt_rip l (cr y) m hs.2.2⟩
theorem rip_len (l : List E8) (m : Int) : (rip l m).length ≤ l.length ∧ (lft l m).length ≤ l.length := ⟨List.length_filter_le _ _, List.length_filter_le _ _⟩
theorem wd_rip {l : List E8} (m : Int) (h : Wd l) : Wd (rip l m) := fun r hr => h r (List.mem_filter.1 hr).1
theorem wd_lft {l : List E8} (m : Int) (h : Wd l) : Wd (lft l m) := fun r hr => h r (List.mem_filter.1 hr).1
/-- Both parts of a queue may be. -/
theorem ok_parts {l : List E8} (m : Int) (hw : Wd l) (h : Ok l) : Ok (rip l m) ∧ Ok (lft l m) := by
  have e := rip_lft l 0 m h.2.1
  have t : tot l = tot (rip l m) + tot (lft l m) := by rw [← tot_app, e]
  have h1 := tot_pos (wd_rip m hw)
  have h2 := tot_pos (wd_lft m hw)
  have h3 := h.2.2
  exact ⟨⟨Nat.le_trans (List.length_filter_le _ _) h.1, srt_rip l 0 m h.2.1, by omega⟩, ⟨Nat.le_trans (List.length_filter_le _ _) h.1, srt_lft l 0 m h.2.1, by omega⟩⟩
/-- An entry that was added: the queue may be, and no more are live than may be. -/
theorem add_good {l : List E8} {x : E8} {m : Int} (h : addE l x m = 0) : Ok (l ++ [x]) ∧ (live (l ++ [x]) (own x) (val x) : Int) ≤ m := by
  by_cases h1 : (chk l).1 = 0
  case neg => rw [addE_0 h1] at h; exact absurd h h1
  by_cases h2 : m < 1 ∨ 16 < m
  · rw [addE_3 h1 h2] at h; cases h
  by_cases h3 : qE (bef 0 l l.length) x = 0
  case neg => rw [addE_q h1 h2 h3] at h; exact absurd h h3
  by_cases h4 : bal x = ini x
  case neg => rw [addE_11 h1 h2 h3 h4] at h; cases h
  by_cases h5 : m ≤ live l (own x) (val x)
  · rw [addE_22 h1 h2 h3 h4 h5] at h; cases h
  by_cases h6 : l.length = 32768
  · rw [addE_7 h1 h2 h3 h4 h5 h6] at h; cases h
  by_cases h7 : 4611686018427387904 < tot l + bal x
  · rw [addE_12 h1 h2 h3 h4 h5 h6 h7] at h; cases h
  obtain ⟨k1, k2, k3⟩ := chk_ok.1 h1
  obtain ⟨q1, q2⟩ := qE_ok h3
  refine ⟨⟨by rw [List.length_append]; show l.length + 1 ≤ _; omega, (srt_snoc l 0 x).2 ⟨k2, q1, q2⟩, ?_⟩, ?_⟩
  · rw [tot_app]
    show tot l + (bal x + 0) ≤ _
    omega
  · rw [live_snoc, if_pos (show isOf (own x) (val x) x = true from decide_eq_true ⟨rfl, rfl⟩)]
    omega
/-- A cut changes nothing of an entry but its Balance. -/
theorem cutX_may {v h p : Int} {r : E8} (hn : 0 ≤ bal r) (p0 : 0 ≤ p) (p1 : p ≤ 1000000000) (hm : may r = true) : may (cutX v h p r) = true ∧ cr (cutX v h p r) = cr r ∧ bkE v h (cutX v h p r) = bkE v h r ∧ 0 ≤ bal (cutX v h p r) ∧ bal (cutX v h p r) ≤ bal r := by
  obtain ⟨o, a, b, c, d, u, i, n⟩ := r
  have hn : 0 ≤ n := hn
  have hp := prt_le hn p0 p1
  cases hb : Sm.bkB a b c d v h u with
  | false =>
    rw [cutX_no (show bkE v h (o, a, b, c, d, u, i, n) = false from hb)]
    exact ⟨hm, rfl, rfl, hn, Int.le_refl _⟩
  | true =>
    rw [cutX_yes hb]
    obtain ⟨q1, q2, q3, q4, q5, q6⟩ := (may_iff o a b c d u i n).1 hm
    exact ⟨(may_iff _ _ _ _ _ _ _ _).2 ⟨q1, q2, q3, q4, q5, by omega⟩, rfl, rfl, by show 0 ≤ n - _; omega, by show n - _ ≤ n; omega⟩
theorem srt_cut {v h p : Int} (p0 : 0 ≤ p) (p1 : p ≤ 1000000000) : ∀ (l : List E8) (b : Int), Wd l → Srt b l → Srt b (l.map (cutX v h p))
  | [], _, _, _ => trivial
  | y :: l, b, hw, hs => by
    obtain ⟨q1, q2, _, _, _⟩ := cutX_may (v := v) (h := h) (hw y (List.mem_cons_self ..)).1 p0 p1 hs.1
    have h2 := srt_cut (v := v) (h := h) p0 p1 l (cr y) (fun r hr => hw r (List.mem_cons_of_mem _ hr)) hs.2.2
    exact ⟨q1, by rw [q2]; exact hs.2.1, by rw [q2]; exact h2⟩
theorem wd_cut {v h p : Int} (p0 : 0 ≤ p) (p1 : p ≤ 1000000000) {l : List E8} (hw : Wd l) (hs : ∀ r ∈ l, may r = true) : Wd (l.map (cutX v h p)) := fun r hr => by
  obtain ⟨y, hy, rfl⟩ := List.mem_map.1 hr
  obtain ⟨_, _, _, q4, q5⟩ := cutX_may (v := v) (h := h) (hw y hy).1 p0 p1 (hs y hy)
  have := hw y hy
  exact ⟨q4, by omega⟩
theorem tot_cut {v h p : Int} (p0 : 0 ≤ p) (p1 : p ≤ 1000000000) : ∀ (l : List E8), Wd l → (∀ r ∈ l, may r = true) → tot (l.map (cutX v h p)) ≤ tot l
  | [], _, _ => Int.le_refl _
  | y :: l, hw, hs => by
    obtain ⟨_, _, _, q4, q5⟩ := cutX_may (v := v) (h := h) (hw y (List.mem_cons_self ..)).1 p0 p1 (hs y (List.mem_cons_self ..))
    have h2 := tot_cut (v := v) (h := h) p0 p1 l (fun r hr => hw r (List.mem_cons_of_mem _ hr)) (fun r hr => hs r (List.mem_cons_of_mem _ hr))
    show bal (cutX v h p y) + tot (l.map (cutX v h p)) ≤ bal y + tot l
    omega
/-- Behind a cut a queue may be. -/
theorem ok_cut {v h p : Int} (p0 : 0 ≤ p) (p1 : p ≤ 1000000000) {l : List E8} (hw : Wd l) (ho : Ok l) : Ok (l.map (cutX v h p)) ∧ Wd (l.map (cutX v h p)) := by
  have hs : ∀ r ∈ l, may r = true := fun r hr => (srt_le l 0 ho.2.1 r hr).1
  have := tot_cut (v := v) (h := h) p0 p1 l hw hs
  have := ho.2.2
  exact ⟨⟨by rw [List.length_map]; exact ho.1, srt_cut p0 p1 l 0 hw ho.2.1, by omega⟩, wd_cut p0 p1 hw hs⟩
/-- Behind two cuts there is no less than behind one of both parts. -/
theorem two_cuts {v h p m : Int} {r : E8} (hn : 0 ≤ bal r) (p0 : 0 ≤ p) (m0 : 0 ≤ m) (hpm : p + m ≤ 1000000000) : bal (cutX v h (p + m) r) ≤ bal (cutX v h m (cutX v h p r)) := by
  obtain ⟨o, a, b, c, d, u, i, n⟩ := r
  have hn : 0 ≤ n := hn
  cases hb : Sm.bkB a b c d v h u with
  | false =>
    have e := hb
    rw [cutX_no (p := p + m) (show bkE v h (o, a, b, c, d, u, i, n) = false from hb), cutX_no (p := p) (show bkE v h (o, a, b, c, d, u, i, n) = false from hb), cutX_no (p := m) (show bkE v h (o, a, b, c, d, u, i, n) = false from hb)]
    exact Int.le_refl _
  | true =>
    rw [cutX_yes hb, cutX_yes hb, cutX_yes hb]
    show n - n * (p + m) / 1000000000 ≤ n - n * p / 1000000000 - (n - n * p / 1000000000) * m / 1000000000
    have hp := prt_le hn p0 (by omega : p ≤ 1000000000)
    have e : n * (p + m) = n * p + n * m := Int.mul_add _ _ _
    have h1 : (n - n * p / 1000000000) * m ≤ n * m := Int.mul_le_mul_of_nonneg_right (by omega) m0
    rw [e]
    omega
theorem cut_get {l : List E8} {k : Nat} {r : E8} (v h p : Int) (hr : l[k]? = some r) : (l.map (cutX v h p))[k]? = some (cutX v h p r) := by
  rw [List.getElem?_map, hr]; rfl
theorem ct_ok {l : List E8} {v h p : Int} (ho : Ok l) (hb : 0 ≤ v ∧ v < 32 ∧ 1 ≤ h ∧ h ≤ 4294967296) (hp : p ≤ 1000000000) : ctE l v h p = 0 ∧ ctL l v h p = l.map (cutX v h p) ∧ ctS l v h p = shv v h p 0 l ∧ ctN l v h p = lost v h p l := by
  have e := (ct_ways l v h p).2.2 (chk_ok.2 ho) ⟨hb.1, hb.2.1, hb.2.2.1, hb.2.2.2, hp⟩
  exact ⟨e, if_pos e, if_pos e, if_pos e⟩
theorem ct_no {l : List E8} {v h p : Int} (ho : Ok l) (hb : ¬ (0 ≤ v ∧ v < 32 ∧ 1 ≤ h ∧ h ≤ 4294967296)) : ctE l v h p = 3 :=
  (ct_ways l v h p).2.1 (chk_ok.2 ho) (fun h' => hb ⟨h'.1, h'.2.1, h'.2.2.1, h'.2.2.2.1⟩)
/-- The next shave. -/
theorem shv_get {l : List E8} {k : Nat} {r : E8} (v h p : Int) (hr : l[k]? = some r) (hb : bkE v h r = true) : (shv v h p 0 l)[(shv v h p 0 (l.take k)).length]? = some ((k : Int), prt p r) := by
  have e := shv_next v h p hr
  rw [if_pos hb] at e
  have e2 : shv v h p 0 l = shv v h p 0 (l.take (k + 1)) ++ shv v h p (0 + (l.take (k + 1)).length) (l.drop (k + 1)) := by
    rw [← shv_app, List.take_append_drop]
  rw [e2, e, List.append_assoc, List.getElem?_append_right (Nat.le_refl _), Nat.sub_self]
  rfl
end Qu
end Go.Proofs.Ytdpompponngmdaa
end
