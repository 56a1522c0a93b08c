/-
  Texts of this claim, put together: RefDiv, RefApi, Qu18, Qu19, Qu20, Qu21, QuIn. What each one says, and under which conditions, stands ahead of it.
-/
import Derived.Test.YtcefjigbaglmeaaGreatGRef
import Derived.Test.YtcefjigbaglmeaaGreatQB
import Derived.Test.YtcefjigbaglmeaaGreatGSm1
import Derived.Test.YtcefjigbaglmeaaGreatQA
import Derived.Test.YtcefjigbaglmeaaGreatGFixApi
import Derived.Test.YtcefjigbaglmeaaGreatGQu7

section
/-
  What distraintref01.Divide answers in this program: the quotient's low word, whether the quotient is above all words, and the rest.
  Conditions: words; the divisor is not 0.
-/
namespace Go.Proofs.YtcefjigbaglmeaaGreat
open Go.RowKit Go.Shelf
set_option linter.unusedVariables false
namespace Ref
open Fix

/-- Is the quotient above all words? -/
def big (D : Int) : Bool := decide (18446744073709551616 ≤ D)
theorem big_yes {D : Int} (h : 18446744073709551616 ≤ D) : big D = true := decide_eq_true h
theorem big_no {D : Int} (h : D < 18446744073709551616) : big D = false := decide_eq_false (by omega)

/-- The ways through one round: of what is left (M) and of the quotient (D); X: what the doubled rest is as a word. -/
theorem round_cases {M D M' D' c bit : Int} (c1 : c ≤ 18446744073709551615) (M0 : 0 ≤ M) (M1 : M < c) (D0 : 0 ≤ D) (b0 : 0 ≤ bit) (b1 : bit ≤ 1)
    (h : (c ≤ 2 * M + bit ∧ D' = 2 * D + 1 ∧ M' = 2 * M + bit - c) ∨ (2 * M + bit < c ∧ D' = 2 * D ∧ M' = 2 * M + bit)) :
    ∃ X Z : Int, IntKind.u64.wrap (2 * M) = X ∧ 0 ≤ X ∧ X ≤ 18446744073709551614 ∧ IntKind.u64.wrap (2 * lo D) = Z ∧ 0 ≤ Z ∧ Z ≤ 18446744073709551614 ∧
      ((9223372036854775808 ≤ M ∧ IntKind.u64.wrap (X + bit - c) = M' ∧ Z + 1 = lo D') ∨
       (M < 9223372036854775808 ∧ c ≤ X + bit ∧ IntKind.u64.wrap (X + bit - c) = M' ∧ Z + 1 = lo D') ∨
       ((M / 9223372036854775808 == 1) = false ∧ M' < c ∧ X + bit = M' ∧ Z = lo D')) ∧
      ((big D = true ∧ big D' = true) ∨ (big D = false ∧ (lo D / 9223372036854775808 == 1) = true ∧ big D' = true) ∨ (big D = false ∧ (lo D / 9223372036854775808 == 1) = false ∧ big D' = false)) := by
  refine ⟨_, _, rfl, ?_, ?_, rfl, ?_, ?_, ?_, ?_⟩
  · rw [IntKind.wrap_u64]; omega
  · rw [IntKind.wrap_u64]; omega
  · rw [IntKind.wrap_u64]; omega
  · rw [IntKind.wrap_u64]; unfold lo; omega
  · simp only [IntKind.wrap_u64]
    unfold lo
    rcases h with ⟨h1, h2, h3⟩ | ⟨h1, h2, h3⟩
    · rcases Int.lt_or_le M 9223372036854775808 with h | h
      · right; left; refine ⟨h, ?_, ?_, ?_⟩ <;> omega
      · left; refine ⟨h, ?_, ?_⟩ <;> omega
    · right; right; refine ⟨beq_eq_false_iff_ne.2 (by omega), ?_, ?_, ?_⟩ <;> omega
  · rcases Int.lt_or_le D 18446744073709551616 with hd | hd
    · have e : lo D = D := by unfold lo; omega
      rw [e]
      rcases Int.lt_or_le D 9223372036854775808 with he | he
      · right; right
        exact ⟨big_no hd, beq_eq_false_iff_ne.2 (by omega), big_no (by omega)⟩
      · right; left
        exact ⟨big_no hd, beq_iff_eq.2 (by omega), big_yes (by omega)⟩
    · left
      exact ⟨big_yes hd, big_yes (by omega)⟩

end Ref
end Go.Proofs.YtcefjigbaglmeaaGreat
end

section
/-
  What MulDiv, MulDivUp, Rest, Capped and Part of distraintref01 answer in this program: the same as those of fixnum.
  Conditions: every amount is from 0 to 2^64 - 1.
-/
namespace Go.Proofs.YtcefjigbaglmeaaGreat
open Go.RowKit Go.Shelf
set_option linter.unusedVariables false
namespace Ref
open Fix

end Ref
end Go.Proofs.YtcefjigbaglmeaaGreat
end

section
/-
  What a cut takes: plain functions and their mathematics; the reference's Backed, of a stamp that may be.
-/
namespace Go.Proofs.YtcefjigbaglmeaaGreat
open Go.RowKit Go.Shelf
set_option linter.unusedVariables false
set_option linter.unusedSimpArgs false
set_option Elab.async false
namespace Qu
open Kk Pm

/-- Did an entry back v at h? -/
def bkE (v h : Int) : E8 → Bool
  | (o, a, b, c, d, u, i, n) => Sm.bkB a b c d v h u
/-- The part that it loses. -/
def prt (p : Int) (r : E8) : Int := bal r * p / 1000000000
def cutX (v h p : Int) : E8 → E8
  | (o, a, b, c, d, u, i, n) => if Sm.bkB a b c d v h u = true then (o, a, b, c, d, u, i, n - n * p / 1000000000) else (o, a, b, c, d, u, i, n)
theorem cutX_yes {v h p o a b c d u i n : Int} (hb : Sm.bkB a b c d v h u = true) : cutX v h p (o, a, b, c, d, u, i, n) = (o, a, b, c, d, u, i, n - n * p / 1000000000) := if_pos hb
theorem cutX_no {v h p : Int} {r : E8} (hb : bkE v h r = false) : cutX v h p r = r := by
  obtain ⟨o, a, b, c, d, u, i, n⟩ := r
  exact if_neg (by show ¬ bkE v h (o, a, b, c, d, u, i, n) = true; rw [hb]; decide)
def ctE (l : List E8) (v h p : Int) : Int := if (chk l).1 ≠ 0 then (chk l).1 else if ¬ (0 ≤ v ∧ v < 32 ∧ 1 ≤ h ∧ h ≤ 4294967296 ∧ p ≤ 1000000000) then 3 else 0
/-- What each loses, with its place. -/
def shv (v h p : Int) : Nat → List E8 → List S2
  | _, [] => []
  | k, r :: l => (if bkE v h r = true then [((k : Int), prt p r)] else []) ++ shv v h p (k + 1) l
def lost (v h p : Int) : List E8 → Int
  | [] => 0
  | r :: l => (if bkE v h r = true then prt p r else 0) + lost v h p l
def ctL (l : List E8) (v h p : Int) : List E8 := if ctE l v h p = 0 then l.map (cutX v h p) else []
def ctS (l : List E8) (v h p : Int) : List S2 := if ctE l v h p = 0 then shv v h p 0 l else []
def ctN (l : List E8) (v h p : Int) : Int := if ctE l v h p = 0 then lost v h p l else 0
theorem ct_ways (l : List E8) (v h p : Int) : ((chk l).1 ≠ 0 → ctE l v h p = (chk l).1) ∧ ((chk l).1 = 0 → ¬ (0 ≤ v ∧ v < 32 ∧ 1 ≤ h ∧ h ≤ 4294967296 ∧ p ≤ 1000000000) → ctE l v h p = 3) ∧ ((chk l).1 = 0 → (0 ≤ v ∧ v < 32 ∧ 1 ≤ h ∧ h ≤ 4294967296 ∧ p ≤ 1000000000) → ctE l v h p = 0) := by
  unfold ctE
  exact ⟨fun h => if_pos h, fun h h2 => by rw [if_neg (by omega), if_pos h2], fun h h2 => by rw [if_neg (by omega), if_neg (fun h' => h' h2)]⟩
/-- The queue behind k rounds. -/
def curL (l : List E8) (v h p : Int) (k : Nat) : List E8 := (l.take k).map (cutX v h p) ++ l.drop k
section
variable {l : List E8} {v h p : Int} {k : Nat} {r : E8}
theorem cur_zero : curL l v h p 0 = l := by simp [curL]
theorem cur_len (hk : k ≤ l.length) : (curL l v h p k).length = l.length := by simp [curL]; omega
theorem cur_end : curL l v h p l.length = l.map (cutX v h p) := by simp [curL]
theorem cur_at (hr : l[k]? = some r) : (curL l v h p k)[k]? = some r := by
  have := (List.getElem?_eq_some_iff.1 hr).1
  unfold curL
  rw [List.getElem?_append_right (by simp; omega)]
  simp
  rw [show k + (k - min k l.length) = k by omega]
  exact hr
theorem cur_set (hr : l[k]? = some r) : (curL l v h p k).set k (cutX v h p r) = curL l v h p (k + 1) := by
  have hk := (List.getElem?_eq_some_iff.1 hr).1
  have e : l.drop k = r :: l.drop (k + 1) := by
    rw [List.drop_eq_getElem_cons hk]
    congr 1
    exact (List.getElem?_eq_some_iff.1 hr).2
  unfold curL
  rw [List.set_append_right _ _ (by simp; omega), List.take_add_one, hr, e]
  simp
  rw [show k - min k l.length = 0 by omega]
  rfl
theorem cur_same (hr : l[k]? = some r) (hs : cutX v h p r = r) : curL l v h p (k + 1) = curL l v h p k := by
  rw [← cur_set hr, hs]
  refine List.ext_getElem? fun i => ?_
  have h1 := cur_at (v := v) (h := h) (p := p) hr
  rw [List.getElem?_set]
  split
  · next e =>
    subst e
    rw [if_pos (List.getElem?_eq_some_iff.1 h1).1, h1]
  · rfl
end
theorem shv_app (v h p : Int) : ∀ (l m : List E8) (k : Nat), shv v h p k (l ++ m) = shv v h p k l ++ shv v h p (k + l.length) m
  | [], m, k => by simp [shv]
  | r :: l, m, k => by
    show _ ++ shv v h p (k + 1) (l ++ m) = (_ ++ shv v h p (k + 1) l) ++ shv v h p (k + (l.length + 1)) m
    rw [shv_app v h p l m (k + 1), List.append_assoc, show k + (l.length + 1) = k + 1 + l.length by omega]
theorem shv_len (v h p : Int) : ∀ (l : List E8) (k : Nat), (shv v h p k l).length ≤ l.length
  | [], k => Nat.le_refl _
  | r :: l, k => by
    have := shv_len v h p l (k + 1)
    show (_ ++ shv v h p (k + 1) l).length ≤ l.length + 1
    rw [List.length_append]
    split
    · simp; omega
    · simp; omega
theorem lost_app (v h p : Int) : ∀ (l m : List E8), lost v h p (l ++ m) = lost v h p l + lost v h p m
  | [], m => by show lost v h p m = 0 + lost v h p m; omega
  | r :: l, m => by
    show _ + lost v h p (l ++ m) = (_ + lost v h p l) + lost v h p m
    rw [lost_app v h p l m]; omega
theorem shv_next {l : List E8} {k : Nat} {r : E8} (v h p : Int) (hr : l[k]? = some r) : shv v h p 0 (l.take (k + 1)) = shv v h p 0 (l.take k) ++ (if bkE v h r = true then [((k : Int), prt p r)] else []) := by
  have hk := (List.getElem?_eq_some_iff.1 hr).1
  rw [List.take_add_one, hr, shv_app]
  show _ ++ ((if bkE v h r = true then [(((0 + (l.take k).length : Nat) : Int), prt p r)] else []) ++ []) = _
  rw [List.append_nil, List.length_take, show 0 + min k l.length = k by omega]
theorem lost_next {l : List E8} {k : Nat} {r : E8} (v h p : Int) (hr : l[k]? = some r) : lost v h p (l.take (k + 1)) = lost v h p (l.take k) + (if bkE v h r = true then prt p r else 0) := by
  rw [List.take_add_one, hr, lost_app]
  show _ + ((if bkE v h r = true then prt p r else 0) + 0) = _
  omega
theorem prt_le {p n : Int} (h0 : 0 ≤ n) (p0 : 0 ≤ p) (p1 : p ≤ 1000000000) : 0 ≤ n * p / 1000000000 ∧ n * p / 1000000000 ≤ n := by
  have m0 : 0 ≤ n * p := Int.mul_nonneg h0 p0
  have m1 : n * p ≤ n * 1000000000 := Int.mul_le_mul_of_nonneg_left p1 h0
  omega
theorem lost_le {v h p : Int} (p0 : 0 ≤ p) (p1 : p ≤ 1000000000) : ∀ {l : List E8}, Wd l → 0 ≤ lost v h p l ∧ lost v h p l ≤ tot l
  | [], _ => ⟨Int.le_refl _, Int.le_refl _⟩
  | r :: l, hw => by
    have h1 := prt_le (hw r (List.mem_cons_self ..)).1 p0 p1
    have h2 := lost_le (v := v) (h := h) p0 p1 (l := l) fun x hx => hw x (List.mem_cons_of_mem _ hx)
    show 0 ≤ (if bkE v h r = true then prt p r else 0) + lost v h p l ∧ (if bkE v h r = true then prt p r else 0) + lost v h p l ≤ bal r + tot l
    have h3 : 0 ≤ (if bkE v h r = true then prt p r else 0) ∧ (if bkE v h r = true then prt p r else 0) ≤ bal r := by
      split
      · exact h1
      · exact ⟨Int.le_refl _, (hw r (List.mem_cons_self ..)).1⟩
    omega
theorem lost_take {v h p : Int} (p0 : 0 ≤ p) (p1 : p ≤ 1000000000) {l : List E8} (hw : Wd l) (k : Nat) : 0 ≤ lost v h p (l.take k) ∧ lost v h p (l.take k) ≤ tot l := by
  have h1 := lost_le (v := v) (h := h) p0 p1 (l := l.take k) fun x hx => hw x (List.mem_of_mem_take hx)
  have := tot_mono hw k
  omega
theorem part_of {a p : Int} (a0 : 0 ≤ a) (a1 : a ≤ 18446744073709551615) (p0 : 0 ≤ p) (p1 : p ≤ 1000000000) : Fix.partN a p = a * p / 1000000000 ∧ Fix.partE a p = 0 := by
  have := prt_le a0 p0 p1
  unfold Fix.partN Fix.partE
  rw [if_neg (by omega), if_neg (by omega)]
  unfold Fix.mdN Fix.mdE
  rw [if_neg (by decide), if_neg (by decide)]
  exact Fix.amt_of (P := a * p / 1000000000) (by omega)
/-- A row of one's own is one that is owned. -/
theorem own_rb {α : Type} {K : Rw.Row α} {t : TypeId} {w : World} {base g cap : Nat} {l : List α} (h : Rw.RB K t w g l cap) (hb : base ≤ g) (hm : cap ≤ maxLen) : Rw.OwnR K t w base (.slice (some ⟨g, 0, none⟩) l.length cap) l := by
  obtain ⟨cur, h1, h2, h3⟩ := h.blk
  exact ⟨Rw.flat_len K l, .inr ⟨g, cap, cur, rfl, hb, h1, h.cap, hm, h3, h2⟩⟩
theorem rb_rng {w : World} {g cap k : Nat} {l : List E8} {r1 r2 r3 r4 r5 r6 r7 r8 : Int} (h : Rw.RB eR 53 w g l cap) (hr : l[k]? = some (r1, r2, r3, r4, r5, r6, r7, r8)) :
    w.rangeAt g (k * 8) [.int .i64 r1, .int .i64 r2, .int .i64 r3, .int .i64 r4, .int .i64 r5, .int .i64 r6, .int .u64 r7, .int .u64 r8] := by
  obtain ⟨b, o, e, _, hc⟩ := h.rs.at (List.getElem?_eq_some_iff.1 hr).1 hr
  injection e with e
  injection e with e1 e2
  subst e1 e2
  have hc : w.rangeAt g (0 + k * 8) [.int .i64 r1, .int .i64 r2, .int .i64 r3, .int .i64 r4, .int .i64 r5, .int .i64 r6, .int .u64 r7, .int .u64 r8] := hc
  rwa [Nat.zero_add] at hc
theorem rng_st {w : World} {b o : Nat} {r1 r2 r3 r4 r5 r6 r7 r8 : Value} (h : w.rangeAt b o [r1, r2, r3, r4, r5, r6, r7, r8]) : w.rangeAt b (o + 1) [r2, r3, r4, r5] := fun j u hj => by
  obtain ⟨_, h1, h2, h3, h4, _⟩ := rng8 h
  match j, hj with
  | 0, hj => cases hj; exact h1
  | 1, hj => cases hj; exact h2
  | 2, hj => cases hj; exact h3
  | 3, hj => cases hj; exact h4
theorem bk_a {a b c d v h u : Int} (hk : Sm.ck a b c d = 0) (hv : v = a) (hu : 1 ≤ u) : Sm.bkB a b c d v h u = (decide (b ≤ h) && decide (h ≤ u)) := by
  have hb : b ≠ 0 := by
    unfold Sm.ck at hk
    intro h
    rw [if_pos (by omega)] at hk
    cases hk
  unfold Sm.bkB Sm.hasB Sm.hsF Sm.hsL
  rw [if_pos hv, if_pos hv, if_neg (by omega), decide_eq_true hk, show (b == 0) = false from beq_eq_false_iff_ne.2 hb]
  rfl
theorem bk_c {a b c d v h u : Int} (hk : Sm.ck a b c d = 0) (hv0 : 0 ≤ v) (hv : v ≠ a) (hc : v = c) : Sm.bkB a b c d v h u = (decide (d ≤ h) && decide (h ≤ b)) := by
  have hb : b ≠ 0 := by
    unfold Sm.ck at hk
    intro h
    rw [if_pos (by omega)] at hk
    cases hk
  unfold Sm.bkB Sm.hasB Sm.hsF Sm.hsL
  rw [if_neg hv, if_neg hv, if_pos ⟨hc, by omega⟩, if_pos ⟨hc, by omega⟩, decide_eq_true hk, show (b == 0) = false from beq_eq_false_iff_ne.2 hb, Bool.and_false]
  rfl
theorem bk_n {a b c d v h u : Int} (hv : v ≠ a) (hc : v ≠ c) : Sm.bkB a b c d v h u = false := by
  unfold Sm.bkB Sm.hasB Sm.hsF Sm.hsL
  rw [if_neg hv, if_neg hv, if_neg (fun h => hc h.1), if_neg (fun h => hc h.1)]
  simp
end Qu
end Go.Proofs.YtcefjigbaglmeaaGreat
end

section
/-
  What queue.Cut answers of any queue. Conditions: at most a million entries; Balances are words.
-/
namespace Go.Proofs.YtcefjigbaglmeaaGreat
open Go.RowKit Go.Shelf
set_option linter.unusedVariables false
set_option linter.unusedSimpArgs false
set_option Elab.async false
namespace Qu
open Kk Pm

theorem results_tmp4 {fn : Func} {t u v x : Tmp} (h : fn.results = #[.tmp t, .tmp u, .tmp v, .tmp x]) (tmps : Array Value) (P : Program) (w : World) :
    (results fn tmps).run P w = .ok (.tuple #[tmps.getD t undef, tmps.getD u undef, tmps.getD v undef, tmps.getD x undef]) w := by
  simp [results, h]
theorem info_St : (Tryz.prog.info? 51).map (·.size) = some 4 := by kernel_rfl
/-- What Cut tells. -/
def CutR (w w' : World) (l : List E8) (v h p : Int) (e : Ending) : Prop :=
  ∃ y1 y2, e = .returned (.tuple #[y1, y2, .int .u64 (ctN l v h p), .int .i64 (ctE l v h p)]) ∧ OwnE w' w.heap.size y1 (ctL l v h p) ∧ OwnS w' w.heap.size y2 (ctS l v h p) ∧ Bel w w'
theorem cutR_no {w w' : World} {l : List E8} {v h p x : Int} (hb : Bel w w') (he : ctE l v h p = x) (hx : x ≠ 0) : CutR w w' l v h p (.returned (.tuple #[.slice none 0 0, .slice none 0 0, .int .u64 0, .int .i64 x])) := by
  refine ⟨.slice none 0 0, .slice none 0 0, ?_, ?_, ?_, hb⟩
  · unfold ctN; rw [if_neg (by rw [he]; exact hx), he]
  · unfold ctL; rw [if_neg (by rw [he]; exact hx)]; exact Rw.OwnR.nil_ _ _ _ _
  · unfold ctS; rw [if_neg (by rw [he]; exact hx)]; exact Rw.OwnR.nil_ _ _ _ _
set_option maxRecDepth 100000 in
set_option maxHeartbeats 16000000 in
theorem cut (A : Option Addr) (n c : Nat) (l : List E8) (v h p : Int) (w : World) (hi : Rw.RS eR w A n c l) (hn : n ≤ 1000000) (hw : Wd l) (hp : 0 ≤ p ∧ p ≤ 18446744073709551615) :
    Calls Tryz.prog 51 #[.slice A n c, .int .i64 v, .int .i64 h, .int .u64 p] w fun e w' => CutR w w' l v h p e := by
  have HI := Lib.hid hi
  have HLN := Lib.hid hi.len
  have HW := Lib.hid hw
  have HP := Lib.hid hp
  have CK := Lib.hid (check A n c l w hi (by omega) hw)
  have CW := Lib.hid (ct_ways l v h p)
  have CN := Lib.hid (fun V (hv : Bel w V) => clone A n c l V (hi.bel hv) (by omega))
  have IV := Lib.hid (fun V => isValidator v V)
  have IH := Lib.hid (fun V => isHeight h V)
  obtain ⟨e1, he1⟩ : ∃ e, (chk l).1 = e := ⟨_, rfl⟩
  obtain ⟨e2, he2⟩ : ∃ e, (chk l).2 = e := ⟨_, rfl⟩
  have H1 := Lib.hid he1
  rw [he1, he2] at CK
  rw [he1] at CW
  clear hi he1 he2 hw hp
  go_enter Tryz.func51, Tryz.ntmps51
  go_wp2_with fail
  refine CK.out.mono ?_
  rintro x w1 ⟨rfl, kb⟩
  have K1 := Lib.hid kb
  clear kb CK
  by_cases h0 : e1 = 0
  case neg =>
    have hne : (e1 != 0) = true := by rw [bne_iff_ne]; exact h0
    have HE := Lib.hid (CW.out.1 h0)
    have H0 := Lib.hid h0
    clear h0 CW
    go_wp2_with fail
    ((try simp only [Exit.inBlock, Exit.then]); refine bodyPost_ret (results_tmp4 rfl _ _ _) rfl ?_)
    exact cutR_no K1.out HE.out H0.out
  subst h0
  by_cases hv : 0 ≤ v ∧ v < 32
  case neg =>
    have HE := Lib.hid (CW.out.2.1 rfl (fun h => hv ⟨h.1, h.2.1⟩))
    have iv := IV.out w1
    rw [decide_eq_false hv] at iv
    clear CW
    go_wp2_with fail
    refine iv.mono ?_
    rintro e w2 ⟨rfl, rfl⟩
    clear iv
    go_wp2_with fail
    ((try simp only [Exit.inBlock, Exit.then]); refine bodyPost_ret (results_tmp4 rfl _ _ _) rfl ?_)
    exact cutR_no K1.out HE.out (by decide)
  have iv := IV.out w1
  rw [decide_eq_true hv] at iv
  by_cases hh : 1 ≤ h ∧ h ≤ 4294967296
  case neg =>
    have HE := Lib.hid (CW.out.2.1 rfl (fun h => hh ⟨h.2.2.1, h.2.2.2.1⟩))
    have ih := IH.out w1
    rw [decide_eq_false hh] at ih
    clear CW
    go_wp2_with fail
    refine iv.mono ?_
    rintro e w2 ⟨rfl, rfl⟩
    clear iv
    go_wp2_with fail
    refine ih.mono ?_
    rintro e w2 ⟨rfl, rfl⟩
    clear ih
    go_wp2_with fail
    ((try simp only [Exit.inBlock, Exit.then]); refine bodyPost_ret (results_tmp4 rfl _ _ _) rfl ?_)
    exact cutR_no K1.out HE.out (by decide)
  have ih := IH.out w1
  rw [decide_eq_true hh] at ih
  by_cases hpp : p ≤ 1000000000
  case neg =>
    have HE := Lib.hid (CW.out.2.1 rfl (fun h => hpp h.2.2.2.2))
    have hp1 : 1000000000 < p := by omega
    clear CW
    go_wp2_with fail
    refine iv.mono ?_
    rintro e w2 ⟨rfl, rfl⟩
    clear iv
    go_wp2_with fail
    refine ih.mono ?_
    rintro e w2 ⟨rfl, rfl⟩
    clear ih
    go_wp2_with fail
    ((try simp only [Exit.inBlock, Exit.then]); refine bodyPost_ret (results_tmp4 rfl _ _ _) rfl ?_)
    exact cutR_no K1.out HE.out (by decide)
  have hp1 : ¬ 1000000000 < p := by omega
  have HE := Lib.hid (CW.out.2.2 rfl ⟨hv.1, hv.2, hh.1, hh.2, hpp⟩)
  have HB := Lib.hid (show (0 ≤ v ∧ v < 32) ∧ (1 ≤ h ∧ h ≤ 4294967296) ∧ p ≤ 1000000000 from ⟨hv, hh, hpp⟩)
  have HOK := Lib.hid (chk_ok.1 H1.out)
  have CN := Lib.hid (CN.out w1 K1.out)
  clear CW hv hh hpp IV IH
  go_wp2_with fail
  refine iv.mono ?_
  rintro e w2 ⟨rfl, rfl⟩
  clear iv
  go_wp2_with fail
  refine ih.mono ?_
  rintro e w2 ⟨rfl, rfl⟩
  clear ih
  go_wp2_with fail
  refine CN.out.mono ?_
  rintro x w2 ⟨vc, rfl, ho, kb⟩
  obtain ⟨Ac, cc, rfl, hrs⟩ := ho.slice
  rw [HLN.out] at ho ⊢
  have K2 := Lib.hid (K1.out.trans kb)
  have HO := Lib.hid (ho.mono (Below.size K1.out))
  clear kb ho hrs CN
  go_wp2_with fail
  go_loopw [8, 9, 10, 11, 15, 16, 45] (fun s8 s9 s10 s11 s15 s16 s45 wr => ∃ (k : Nat) (t : Int), k ≤ n ∧ s45 = .int .i64 k ∧ s8 = .slice none 0 0 ∧ s9 = .slice none 0 0 ∧ s10 = .int .u64 0 ∧ s11 = .int .i64 0 ∧ s16 = .int .u64 t ∧ Hid (lost v h p (l.take k) = t) ∧ Hid (OwnE wr w.heap.size (.slice Ac n cc) (curL l v h p k)) ∧ Hid (OwnS wr w.heap.size s15 (shv v h p 0 (l.take k))) ∧ Hid (Bel w wr)) (fun _ _ _ _ _ _ s45 _ => n - (intOf s45).toNat)
  case atStart => exact ⟨0, 0, Nat.zero_le _, rfl, rfl, rfl, rfl, rfl, rfl, Lib.hid rfl, Lib.hid (by rw [cur_zero]; exact HO.out), Lib.hid (Rw.OwnR.nil_ _ _ _ _), K2⟩
  case round =>
    obtain ⟨k, t, hk, rfl, rfl, rfl, rfl, rfl, rfl, ht, ho, hs, hb⟩ := hrel
    by_cases hlt : k < n
    · obtain ⟨⟨r1, r2, r3, r4, r5, r6, r7, r8⟩, hr⟩ := HI.out.get hlt
      obtain ⟨g, cap_, e, hge, hrb, hcm⟩ := Rw.rb_own eR ho.out (by rw [cur_len (by rw [HLN.out]; omega), HLN.out]; omega)
      rw [cur_len (by rw [HLN.out]; omega), HLN.out] at e
      injection e with ea eb ec
      subst ea ec
      have HRB := Lib.hid hrb
      have HGE := Lib.hid hge
      have HCM := Lib.hid hcm
      have HR := Lib.hid hr
      have HM := Lib.hid ((may_iff r1 r2 r3 r4 r5 r6 r7 r8).1 (srt_le l 0 HOK.out.2.1 _ (List.mem_of_getElem? hr)).1)
      have HN8 := Lib.hid (show 0 ≤ r8 ∧ r8 ≤ 18446744073709551615 from HW.out.at hr)
      have HRNG := Lib.hid (rb_rng hrb (cur_at hr))
      have BK := Lib.hid (fun V => Sm.backed r2 r3 r4 r5 v h r6 V)
      have HLS := Lib.hid (lost_next v h p hr)
      have HSN := Lib.hid (shv_next v h p hr)
      have hlt3 : (k : Int) < n := by omega
      have hlt0 : (0 : Int) ≤ k := by omega
      obtain ⟨b, hbk⟩ : ∃ b, Sm.bkB r2 r3 r4 r5 v h r6 = b := ⟨_, rfl⟩
      have HBK := Lib.hid hbk
      rw [hbk] at BK
      have HLS := Lib.hid (show lost v h p (l.take (k + 1)) = t + (if b = true then r8 * p / 1000000000 else 0) by rw [HLS.out, ht.out, ← hbk]; rfl)
      have HSN := Lib.hid (show shv v h p 0 (l.take (k + 1)) = shv v h p 0 (l.take k) ++ (if b = true then [((k : Int), r8 * p / 1000000000)] else []) by rw [HSN.out, ← hbk]; rfl)
      clear hr hrb hge hcm hbk
      cases b with
      | false =>
        have S1 := Lib.hid (show OwnE wr w.heap.size (.slice (some ⟨g, 0, none⟩) n cc) (curL l v h p (k + 1)) by rw [cur_same HR.out (cutX_no HBK.out)]; exact ho.out)
        have S2 := Lib.hid (show shv v h p 0 (l.take (k + 1)) = shv v h p 0 (l.take k) by rw [HSN.out]; simp)
        have S3 := Lib.hid (show lost v h p (l.take (k + 1)) = t by rw [HLS.out]; simp)
        clear HLS HSN
        go_upto_region 13 with fail
        refine wp_region_held_drew (S := fun Vx => Bel wr Vx) (by kernel_rfl) (Bel.refl _).drew (fun hS0 => ?_)
        obtain ⟨w6, hw6⟩ : ∃ w6, World.drew wr = w6 := ⟨_, rfl⟩
        rw [hw6] at hS0 ⊢
        clear hw6
        refine wpAnyH_take (i := 0) (oi := { dst := some 51, op := .move (.tmp 18), type := 116, pos := "queue.go:66", after := #[], guard := none }) (v := .pointer (some ⟨g, k * 8, none⟩)) rfl (by kernel_rfl) (by kernel_rfl) (by kernel_rfl) (fun _ _ _ h => h) (Or.inl ⟨by rfl, by intro w hSw; clear hSw; go_simp⟩) hS0 ?_
        try simp only [Act.put, List.setIfInBounds_toArray, List.set_cons_zero, List.set_cons_succ]
        refine wpAnyH_take (i := 1) (oi := { dst := some 52, op := Op.nilCheck (.tmp 51), type := 0, pos := "queue.go:66", after := #[{ on := 0, ground := .data }], guard := none }) (v := .pointer (some ⟨g, k * 8, none⟩)) rfl (by kernel_rfl) (by kernel_rfl) (by kernel_rfl) (fun _ _ _ h => h) (Or.inl ⟨by rfl, by intro w hSw; clear hSw; go_simp⟩) hS0 ?_
        try simp only [Act.put, List.setIfInBounds_toArray, List.set_cons_zero, List.set_cons_succ]
        refine wpAnyH_take (i := 2) (oi := { dst := some 53, op := .fieldAddr 53 (.tmp 52) 1, type := 0, pos := "queue.go:66", after := #[{ on := 1, ground := .data }], guard := none }) (v := .pointer (some ⟨g, k * 8 + 1, none⟩)) rfl (by kernel_rfl) (by kernel_rfl) (by kernel_rfl) (fun _ _ _ h => h) (Or.inl ⟨by rfl, by intro w hSw; clear hSw; go_simp⟩) hS0 ?_
        try simp only [Act.put, List.setIfInBounds_toArray, List.set_cons_zero, List.set_cons_succ]
        refine wpAnyH_take (i := 3) (oi := { dst := some 54, op := .load 51 (.tmp 53), type := 51, pos := "queue.go:66", after := #[{ on := 2, ground := .data }], guard := none }) (v := .agg #[.int .i64 r2, .int .i64 r3, .int .i64 r4, .int .i64 r5]) rfl (by kernel_rfl) (by kernel_rfl) (by kernel_rfl) (fun _ _ _ h => h) (yieldsIf_load_mid (by rfl) _ _ rfl _ _ rfl _ _ (fun w h => Pm.rng_bel (rng_st HRNG.out) h) Tryz.underlying51 rfl info_St) hS0 ?_
        try simp only [Act.put, List.setIfInBounds_toArray, List.set_cons_zero, List.set_cons_succ]
        refine wpAnyH_take (i := 4) (oi := { dst := some 55, op := .move (.tmp 1), type := 3, pos := "queue.go:66", after := #[], guard := none }) (v := .int .i64 v) rfl (by kernel_rfl) (by kernel_rfl) (by kernel_rfl) (fun _ _ _ h => h) (Or.inl ⟨by rfl, by intro w hSw; clear hSw; go_simp⟩) hS0 ?_
        try simp only [Act.put, List.setIfInBounds_toArray, List.set_cons_zero, List.set_cons_succ]
        refine wpAnyH_take (i := 5) (oi := { dst := some 56, op := .move (.tmp 2), type := 3, pos := "queue.go:66", after := #[], guard := none }) (v := .int .i64 h) rfl (by kernel_rfl) (by kernel_rfl) (by kernel_rfl) (fun _ _ _ h => h) (Or.inl ⟨by rfl, by intro w hSw; clear hSw; go_simp⟩) hS0 ?_
        try simp only [Act.put, List.setIfInBounds_toArray, List.set_cons_zero, List.set_cons_succ]
        refine wpAnyH_take (i := 6) (oi := { dst := some 57, op := .move (.tmp 18), type := 116, pos := "queue.go:66", after := #[], guard := none }) (v := .pointer (some ⟨g, k * 8, none⟩)) rfl (by kernel_rfl) (by kernel_rfl) (by kernel_rfl) (fun _ _ _ h => h) (Or.inl ⟨by rfl, by intro w hSw; clear hSw; go_simp⟩) hS0 ?_
        try simp only [Act.put, List.setIfInBounds_toArray, List.set_cons_zero, List.set_cons_succ]
        refine wpAnyH_take (i := 7) (oi := { dst := some 58, op := Op.nilCheck (.tmp 57), type := 0, pos := "queue.go:66", after := #[{ on := 6, ground := .data }], guard := none }) (v := .pointer (some ⟨g, k * 8, none⟩)) rfl (by kernel_rfl) (by kernel_rfl) (by kernel_rfl) (fun _ _ _ h => h) (Or.inl ⟨by rfl, by intro w hSw; clear hSw; go_simp⟩) hS0 ?_
        try simp only [Act.put, List.setIfInBounds_toArray, List.set_cons_zero, List.set_cons_succ]
        refine wpAnyH_take (i := 8) (oi := { dst := some 59, op := .fieldAddr 53 (.tmp 58) 2, type := 0, pos := "queue.go:66", after := #[{ on := 7, ground := .data }], guard := none }) (v := .pointer (some ⟨g, k * 8 + 5, none⟩)) rfl (by kernel_rfl) (by kernel_rfl) (by kernel_rfl) (fun _ _ _ h => h) (Or.inl ⟨by rfl, by intro w hSw; clear hSw; go_simp⟩) hS0 ?_
        try simp only [Act.put, List.setIfInBounds_toArray, List.set_cons_zero, List.set_cons_succ]
        refine wpAnyH_take (i := 9) (oi := { dst := some 60, op := .load 3 (.tmp 59), type := 3, pos := "queue.go:66", after := #[{ on := 8, ground := .data }], guard := none }) (v := .int .i64 r6) rfl (by kernel_rfl) (by kernel_rfl) (by kernel_rfl) (fun _ _ _ h => h) (Or.inl ⟨by rfl, by intro w h; have hcell := ((rng8 (Pm.rng_bel HRNG.out h)).2.2.2.2.2.1); clear h; go_simp⟩) hS0 ?_
        try simp only [Act.put, List.setIfInBounds_toArray, List.set_cons_zero, List.set_cons_succ]
        refine wpAnyH_ready (rs := [10]) (by kernel_rfl) (by simp) ?_
        refine AllReadyH.cons (o := { dst := some 61, op := .call { callee := .value (.func 79), args := #[.tmp 54, .tmp 55, .tmp 56, .tmp 60], argTypes := #[51, 3, 3, 3] }, type := 4, pos := "queue.go:66", after := #[{ on := 3, ground := .data }, { on := 4, ground := .data }, { on := 5, ground := .data }, { on := 9, ground := .data }], guard := none }) rfl (fun K hK => ?_) AllReadyH.nil
        go_simp
        refine (BK.out _).mono ?_
        rintro e v1 ⟨rfl, kb⟩
        go_wp2_with fail
        refine hK.out _ _ (hS0.trans kb) (fun hS1 => ?_)
        clear hK K
        try simp only [Act.put, List.setIfInBounds_toArray, List.set_cons_zero, List.set_cons_succ]
        refine wpAnyH_take (i := 11) (oi := { dst := some 62, op := .unOp .not 4 (.tmp 61), type := 4, pos := "queue.go:66", after := #[{ on := 10, ground := .data }], guard := none }) (v := .bool true) rfl (by kernel_rfl) (by kernel_rfl) (by kernel_rfl) (fun _ _ _ h => h) (Or.inl ⟨by rfl, by intro w hSw; clear hSw; go_simp⟩) hS1 ?_
        try simp only [Act.put, List.setIfInBounds_toArray, List.set_cons_zero, List.set_cons_succ]
        refine wpAnyH_done (by kernel_rfl) ?_ _
        have HS5 := Lib.hid hS1
        clear hS1
        go_wp2_with fail
        go_roundw
        case rel => exact ⟨k + 1, t, by omega, by go_num, rfl, rfl, rfl, rfl, rfl, S3, Lib.hid (S1.out.bel HS5.out), Lib.hid (by rw [S2.out]; exact hs.out.bel HS5.out), Lib.hid (hb.out.trans HS5.out)⟩
        case measure => simp [intOf]; omega
      | true =>
        have HSN1 := Lib.hid (show shv v h p 0 (l.take (k + 1)) = shv v h p 0 (l.take k) ++ [((k : Int), r8 * p / 1000000000)] from HSN.out)
        have HLS1 := Lib.hid (show lost v h p (l.take (k + 1)) = t + r8 * p / 1000000000 from HLS.out)
        clear HSN HLS
        have HPR := Lib.hid (prt_le HN8.out.1 HP.out.1 HB.out.2.2)
        have HPO := Lib.hid (part_of HN8.out.1 HN8.out.2 HP.out.1 HB.out.2.2)
        have PT := Lib.hid (fun V => Fix.part r8 p V HN8.out.1 HN8.out.2 HP.out.1 HP.out.2)
        rw [HPO.out.1, HPO.out.2] at PT
        have HLT := Lib.hid (lost_take (v := v) (h := h) HP.out.1 HB.out.2.2 HW.out (k + 1))
        rw [HLS1.out] at HLT
        have HSET := Lib.hid (show cutX v h p (r1, r2, r3, r4, r5, r6, r7, r8) = (r1, r2, r3, r4, r5, r6, r7, r8 - r8 * p / 1000000000) from cutX_yes HBK.out)
        have HT0 := Lib.hid (lost_take (v := v) (h := h) HP.out.1 HB.out.2.2 HW.out k)
        rw [ht.out] at HT0
        obtain ⟨q, hq⟩ : ∃ q, r8 * p / 1000000000 = q := ⟨_, rfl⟩
        rw [hq] at HSN1 HLS1 HPR PT HLT HSET
        have hw1 : IntKind.u64.wrap (r8 - q) = r8 - q := IntWalk.u64_in _ (by have := HPR.out; have := HN8.out; omega)
        have hw2 : IntKind.u64.wrap (t + q) = t + q := IntWalk.u64_in _ (by have := HLT.out; have := HOK.out.2.2; have := HPR.out; have := HT0.out; omega)
        have HLL := Lib.hid (show (shv v h p 0 (l.take k)).length ≤ 1000000 from Nat.le_trans (shv_len _ _ _ _ _) (by rw [List.length_take]; omega))
        clear hq HPO HLT HT0
        go_upto_region 13 with fail
        refine wp_region_held_drew (S := fun Vx => Bel wr Vx) (by kernel_rfl) (Bel.refl _).drew (fun hS0 => ?_)
        obtain ⟨w6, hw6⟩ : ∃ w6, World.drew wr = w6 := ⟨_, rfl⟩
        rw [hw6] at hS0 ⊢
        clear hw6
        refine wpAnyH_take (i := 0) (oi := { dst := some 51, op := .move (.tmp 18), type := 116, pos := "queue.go:66", after := #[], guard := none }) (v := .pointer (some ⟨g, k * 8, none⟩)) rfl (by kernel_rfl) (by kernel_rfl) (by kernel_rfl) (fun _ _ _ h => h) (Or.inl ⟨by rfl, by intro w hSw; clear hSw; go_simp⟩) hS0 ?_
        try simp only [Act.put, List.setIfInBounds_toArray, List.set_cons_zero, List.set_cons_succ]
        refine wpAnyH_take (i := 1) (oi := { dst := some 52, op := Op.nilCheck (.tmp 51), type := 0, pos := "queue.go:66", after := #[{ on := 0, ground := .data }], guard := none }) (v := .pointer (some ⟨g, k * 8, none⟩)) rfl (by kernel_rfl) (by kernel_rfl) (by kernel_rfl) (fun _ _ _ h => h) (Or.inl ⟨by rfl, by intro w hSw; clear hSw; go_simp⟩) hS0 ?_
        try simp only [Act.put, List.setIfInBounds_toArray, List.set_cons_zero, List.set_cons_succ]
        refine wpAnyH_take (i := 2) (oi := { dst := some 53, op := .fieldAddr 53 (.tmp 52) 1, type := 0, pos := "queue.go:66", after := #[{ on := 1, ground := .data }], guard := none }) (v := .pointer (some ⟨g, k * 8 + 1, none⟩)) rfl (by kernel_rfl) (by kernel_rfl) (by kernel_rfl) (fun _ _ _ h => h) (Or.inl ⟨by rfl, by intro w hSw; clear hSw; go_simp⟩) hS0 ?_
        try simp only [Act.put, List.setIfInBounds_toArray, List.set_cons_zero, List.set_cons_succ]
        refine wpAnyH_take (i := 3) (oi := { dst := some 54, op := .load 51 (.tmp 53), type := 51, pos := "queue.go:66", after := #[{ on := 2, ground := .data }], guard := none }) (v := .agg #[.int .i64 r2, .int .i64 r3, .int .i64 r4, .int .i64 r5]) rfl (by kernel_rfl) (by kernel_rfl) (by kernel_rfl) (fun _ _ _ h => h) (yieldsIf_load_mid (by rfl) _ _ rfl _ _ rfl _ _ (fun w h => Pm.rng_bel (rng_st HRNG.out) h) Tryz.underlying51 rfl info_St) hS0 ?_
        try simp only [Act.put, List.setIfInBounds_toArray, List.set_cons_zero, List.set_cons_succ]
        refine wpAnyH_take (i := 4) (oi := { dst := some 55, op := .move (.tmp 1), type := 3, pos := "queue.go:66", after := #[], guard := none }) (v := .int .i64 v) rfl (by kernel_rfl) (by kernel_rfl) (by kernel_rfl) (fun _ _ _ h => h) (Or.inl ⟨by rfl, by intro w hSw; clear hSw; go_simp⟩) hS0 ?_
        try simp only [Act.put, List.setIfInBounds_toArray, List.set_cons_zero, List.set_cons_succ]
        refine wpAnyH_take (i := 5) (oi := { dst := some 56, op := .move (.tmp 2), type := 3, pos := "queue.go:66", after := #[], guard := none }) (v := .int .i64 h) rfl (by kernel_rfl) (by kernel_rfl) (by kernel_rfl) (fun _ _ _ h => h) (Or.inl ⟨by rfl, by intro w hSw; clear hSw; go_simp⟩) hS0 ?_
        try simp only [Act.put, List.setIfInBounds_toArray, List.set_cons_zero, List.set_cons_succ]
        refine wpAnyH_take (i := 6) (oi := { dst := some 57, op := .move (.tmp 18), type := 116, pos := "queue.go:66", after := #[], guard := none }) (v := .pointer (some ⟨g, k * 8, none⟩)) rfl (by kernel_rfl) (by kernel_rfl) (by kernel_rfl) (fun _ _ _ h => h) (Or.inl ⟨by rfl, by intro w hSw; clear hSw; go_simp⟩) hS0 ?_
        try simp only [Act.put, List.setIfInBounds_toArray, List.set_cons_zero, List.set_cons_succ]
        refine wpAnyH_take (i := 7) (oi := { dst := some 58, op := Op.nilCheck (.tmp 57), type := 0, pos := "queue.go:66", after := #[{ on := 6, ground := .data }], guard := none }) (v := .pointer (some ⟨g, k * 8, none⟩)) rfl (by kernel_rfl) (by kernel_rfl) (by kernel_rfl) (fun _ _ _ h => h) (Or.inl ⟨by rfl, by intro w hSw; clear hSw; go_simp⟩) hS0 ?_
        try simp only [Act.put, List.setIfInBounds_toArray, List.set_cons_zero, List.set_cons_succ]
        refine wpAnyH_take (i := 8) (oi := { dst := some 59, op := .fieldAddr 53 (.tmp 58) 2, type := 0, pos := "queue.go:66", after := #[{ on := 7, ground := .data }], guard := none }) (v := .pointer (some ⟨g, k * 8 + 5, none⟩)) rfl (by kernel_rfl) (by kernel_rfl) (by kernel_rfl) (fun _ _ _ h => h) (Or.inl ⟨by rfl, by intro w hSw; clear hSw; go_simp⟩) hS0 ?_
        try simp only [Act.put, List.setIfInBounds_toArray, List.set_cons_zero, List.set_cons_succ]
        refine wpAnyH_take (i := 9) (oi := { dst := some 60, op := .load 3 (.tmp 59), type := 3, pos := "queue.go:66", after := #[{ on := 8, ground := .data }], guard := none }) (v := .int .i64 r6) rfl (by kernel_rfl) (by kernel_rfl) (by kernel_rfl) (fun _ _ _ h => h) (Or.inl ⟨by rfl, by intro w h; have hcell := ((rng8 (Pm.rng_bel HRNG.out h)).2.2.2.2.2.1); clear h; go_simp⟩) hS0 ?_
        try simp only [Act.put, List.setIfInBounds_toArray, List.set_cons_zero, List.set_cons_succ]
        refine wpAnyH_ready (rs := [10]) (by kernel_rfl) (by simp) ?_
        refine AllReadyH.cons (o := { dst := some 61, op := .call { callee := .value (.func 79), args := #[.tmp 54, .tmp 55, .tmp 56, .tmp 60], argTypes := #[51, 3, 3, 3] }, type := 4, pos := "queue.go:66", after := #[{ on := 3, ground := .data }, { on := 4, ground := .data }, { on := 5, ground := .data }, { on := 9, ground := .data }], guard := none }) rfl (fun K hK => ?_) AllReadyH.nil
        go_simp
        refine (BK.out _).mono ?_
        rintro e v1 ⟨rfl, kb⟩
        go_wp2_with fail
        refine hK.out _ _ (hS0.trans kb) (fun hS1 => ?_)
        clear hK K
        try simp only [Act.put, List.setIfInBounds_toArray, List.set_cons_zero, List.set_cons_succ]
        refine wpAnyH_take (i := 11) (oi := { dst := some 62, op := .unOp .not 4 (.tmp 61), type := 4, pos := "queue.go:66", after := #[{ on := 10, ground := .data }], guard := none }) (v := .bool false) rfl (by kernel_rfl) (by kernel_rfl) (by kernel_rfl) (fun _ _ _ h => h) (Or.inl ⟨by rfl, by intro w hSw; clear hSw; go_simp⟩) hS1 ?_
        try simp only [Act.put, List.setIfInBounds_toArray, List.set_cons_zero, List.set_cons_succ]
        refine wpAnyH_done (by kernel_rfl) ?_ _
        have HS5 := Lib.hid hS1
        have HRB5 := Lib.hid (HRB.out.bel hS1)
        have HS_ := Lib.hid (hs.out.bel hS1)
        have HB5 := Lib.hid (hb.out.trans hS1)
        clear hS1 BK
        obtain ⟨w5, hw5⟩ : ∃ w5, v1 = w5 := ⟨_, rfl⟩
        rw [hw5] at HRB5 HS_ HB5 HS5 ⊢
        clear hw5
        have PT := Lib.hid (PT.out w5)
        have pc7 := (rng8 (rb_rng HRB5.out (cur_at HR.out))).2.2.2.2.2.2.2
        go_wp2_with fail
        refine PT.out.mono ?_
        rintro e w6 ⟨rfl, kb⟩
        have HRB6 := Lib.hid (HRB5.out.bel kb)
        have HS6 := Lib.hid (HS_.out.bel kb)
        have HB6 := Lib.hid (HB5.out.trans kb)
        clear PT kb pc7
        have HRNG6 := Lib.hid (rb_rng HRB6.out (cur_at HR.out))
        have hfz := HRB6.out.frozen (k * 8 + 7)
        have there_ := (rng8 HRNG6.out).2.2.2.2.2.2.2
        have STEP : OwnE (w6.setCell ⟨g, k * 8 + 7, none⟩ (.int .u64 (r8 - q))) w.heap.size (.slice (some ⟨g, 0, none⟩) n cc) (curL l v h p (k + 1)) ∧ OwnS (w6.setCell ⟨g, k * 8 + 7, none⟩ (.int .u64 (r8 - q))) w.heap.size u15 (shv v h p 0 (l.take k)) ∧ Bel w (w6.setCell ⟨g, k * 8 + 7, none⟩ (.int .u64 (r8 - q))) := by
          have h1 := HRB6.out.set (o := 7) (r' := (r1, r2, r3, r4, r5, r6, r7, r8 - q)) (v := .int .u64 (r8 - q)) (by decide) (cur_at HR.out) rfl
          rw [← HSET.out, cur_set HR.out] at h1
          have h2 := own_rb h1 HGE.out HCM.out
          rw [cur_len (by rw [HLN.out]; omega), HLN.out] at h2
          refine ⟨h2, HS6.out.kep (S := fun b => b = g) (Kep.set_self (Kep.refl _ _) _ _) (fun i e e' => ?_), HB6.out.set HGE.out _⟩
          obtain ⟨C, hC, _⟩ := HRB6.out.blk
          subst e'
          exact Rw.own_ne HS6.out hC (by decide) e
        obtain ⟨W1, hW1⟩ : ∃ W, w6.setCell ⟨g, k * 8 + 7, none⟩ (.int .u64 (r8 - q)) = W := ⟨_, rfl⟩
        rw [hW1] at STEP
        have HW1 := Lib.hid hW1
        have S1 := Lib.hid STEP.1
        have S2 := Lib.hid (STEP.2.1.bel ((Bel.refl W1).alloc (.cells #[.int .i64 k, .int .u64 q] 90)))
        have S3 := Lib.hid STEP.2.2
        have HX := Lib.hid (Rw.rs_one sR (r := ((k : Int), q)) (Blk.new W1 #[.int .i64 k, .int .u64 q] 90))
        have HSZ := Lib.hid (Below.size S3.out)
        clear STEP hW1
        go_upto_region 18 with fail
        rw [HW1.out]
        clear hfz there_
        go_wp2_with (at_builtin; refine Rw.append_R sR rfl _ _ _ 90 rfl underS zero_S rfl (by decide) w.heap.size _ (shv v h p 0 (l.take k)) rfl S2.out (some ⟨W1.heap.size, 0, none⟩) 1 1 [((k : Int), q)] rfl HX.out (by have := HLL.out; omega) (by have := HSZ.out; simp; omega) ?_; intro v9 w9 hown' hgrow)
        have hgrow : World.grownBy _ w9 (Value.ownBlock u15) := hgrow
        have T2 := Lib.hid hown'
        have T3 := Lib.hid (show Bel w w9 from Kk.Bel.grown (S3.out.alloc _) hgrow (fun k hk => (S2.out.lt k hk).1))
        have T1 := Lib.hid (show OwnE w9 w.heap.size (.slice (some ⟨g, 0, none⟩) n cc) (curL l v h p (k + 1)) from (S1.out.bel ((Bel.refl W1).alloc (.cells #[.int .i64 k, .int .u64 q] 90))).kept hgrow (.inr (fun e => Rw.own_ne2 S2.out (S1.out.bel ((Bel.refl W1).alloc (.cells #[.int .i64 k, .int .u64 q] 90))) (by decide) g e.symm rfl)))
        have T4 := Lib.hid (show OwnS w9 w.heap.size v9 (shv v h p 0 (l.take (k + 1))) by rw [HSN1.out]; exact T2.out)
        have T5 := Lib.hid HLS1.out
        clear hown' hgrow
        go_wp2_with fail
        go_roundw
        case rel => exact ⟨k + 1, t + q, by omega, by go_num, rfl, rfl, rfl, rfl, rfl, T5, T1, T4, T3⟩
        case measure => simp [intOf]; omega
    · obtain rfl : k = n := by omega
      go_wp2_with fail
      (try rw [Exit.noGoto_ret])
      ((try simp only [Exit.inBlock, Exit.then]); refine bodyPost_ret (results_tmp4 rfl _ _ _) rfl ?_)
      refine ⟨_, _, by rw [HE.out]; unfold ctN; rw [if_pos HE.out, ← ht.out, List.take_of_length_le (by rw [HLN.out]; exact Nat.le_refl _)]; rfl, ?_, ?_, hb.out⟩
      · unfold ctL
        rw [if_pos HE.out, ← cur_end, HLN.out]
        exact ho.out
      · unfold ctS
        rw [if_pos HE.out]
        have := hs.out
        rw [List.take_of_length_le (by rw [HLN.out]; exact Nat.le_refl _)] at this
        exact this
end Qu
end Go.Proofs.YtcefjigbaglmeaaGreat
end

section
/-
  What the reference's Cut answers of any queue. Conditions: at most a million entries; Balances are words.
-/
namespace Go.Proofs.YtcefjigbaglmeaaGreat
open Go.RowKit Go.Shelf
set_option linter.unusedVariables false
set_option linter.unusedSimpArgs false
set_option Elab.async false
namespace Qu
open Kk Pm

end Qu
end Go.Proofs.YtcefjigbaglmeaaGreat
end

section
/-
  What awake of the laws answers: true. No condition.
-/
namespace Go.Proofs.YtcefjigbaglmeaaGreat
open Go.RowKit Go.Shelf
set_option linter.unusedVariables false
set_option linter.unusedSimpArgs false
set_option Elab.async false
namespace Qu
open Kk Pm

/-- The chapter's queue. -/
def C3 : List E8 := [(0, 2, 5, -1, 0, 9, 10, 10), (1, 2, 5, -1, 0, 9, 20, 20), (0, 3, 6, 2, 5, 12, 30, 30)]
def uR : Rw.Row Int where
  k := fun n => [.int .u64 n]
  z := 1
  len := fun _ => rfl
  one := fun r u hu => by
    simp at hu
    subst hu
    rfl
  pos := by decide
theorem wd3 : Wd C3 := fun r hr => by
  simp [C3] at hr
  rcases hr with rfl | rfl | rfl <;> (unfold bal; simp)
theorem load_st {w : World} {b : Nat} {x1 x2 x3 x4 : Int} (h : Blk w b #[.int .i64 x1, .int .i64 x2, .int .i64 x3, .int .i64 x4] 51) : (loadVar 51 ⟨b, 0, none⟩).run Tryz.prog w = .ok (.agg #[.int .i64 x1, .int .i64 x2, .int .i64 x3, .int .i64 x4]) w :=
  Pm.load_b (C := [.int .i64 x1, .int .i64 x2, .int .i64 x3, .int .i64 x4]) h Tryz.underlying51 rfl info_St
theorem two_ (w : World) : Calls Tryz.prog 46 #[] w fun e w' => e = .returned (.agg #[.int .i64 2, .int .i64 5, .int .i64 (-1), .int .i64 0]) ∧ Bel w w' := by
  have P0 := Lib.hid (Blk.new w #[.int .i64 0, .int .i64 0, .int .i64 0, .int .i64 0] 51)
  obtain ⟨W, hW⟩ : ∃ W, w.alloc (.cells #[.int .i64 0, .int .i64 0, .int .i64 0, .int .i64 0] 51) = W := ⟨_, rfl⟩
  have BW := Lib.hid (show Bel w W by rw [← hW]; exact (Bel.refl w).alloc _)
  rw [hW] at P0
  have HW := Lib.hid hW
  clear hW
  go_enter Tryz.func46, Tryz.ntmps46
  go_upto_region 1 with fail
  rw [HW.out]
  obtain ⟨g, hg⟩ : ∃ g, w.heap.size = g := ⟨_, rfl⟩
  rw [hg] at P0 ⊢
  have HG := Lib.hid hg
  clear hg
  have c0 := P0.out.cell 0 rfl
  have c1 := P0.out.cell 1 rfl
  have c2 := P0.out.cell 2 rfl
  have c3 := P0.out.cell 3 rfl
  have f0 := P0.out.frozen 0
  have f1 := P0.out.frozen 1
  have f2 := P0.out.frozen 2
  have f3 := P0.out.frozen 3
  go_wp2_with fail
  refine bodyPost_ret (Pm.res_c rfl _ _ ⟨g, 0, none⟩ _ rfl (load_st (x1 := 2) (x2 := 5) (x3 := (-1)) (x4 := 0) ((((P0.out.set 0 _).set 1 _).set 2 _).set 3 _))) rfl ⟨rfl, ?_⟩
  have h : w.heap.size ≤ g := by rw [HG.out]; exact Nat.le_refl _
  exact (((BW.out.set h _).set h _).set h _).set h _
theorem hop_ (w : World) : Calls Tryz.prog 47 #[] w fun e w' => e = .returned (.agg #[.int .i64 3, .int .i64 6, .int .i64 2, .int .i64 5]) ∧ Bel w w' := by
  have P0 := Lib.hid (Blk.new w #[.int .i64 0, .int .i64 0, .int .i64 0, .int .i64 0] 51)
  obtain ⟨W, hW⟩ : ∃ W, w.alloc (.cells #[.int .i64 0, .int .i64 0, .int .i64 0, .int .i64 0] 51) = W := ⟨_, rfl⟩
  have BW := Lib.hid (show Bel w W by rw [← hW]; exact (Bel.refl w).alloc _)
  rw [hW] at P0
  have HW := Lib.hid hW
  clear hW
  go_enter Tryz.func47, Tryz.ntmps47
  go_upto_region 1 with fail
  rw [HW.out]
  obtain ⟨g, hg⟩ : ∃ g, w.heap.size = g := ⟨_, rfl⟩
  rw [hg] at P0 ⊢
  have HG := Lib.hid hg
  clear hg
  have c0 := P0.out.cell 0 rfl
  have c1 := P0.out.cell 1 rfl
  have c2 := P0.out.cell 2 rfl
  have c3 := P0.out.cell 3 rfl
  have f0 := P0.out.frozen 0
  have f1 := P0.out.frozen 1
  have f2 := P0.out.frozen 2
  have f3 := P0.out.frozen 3
  go_wp2_with fail
  refine bodyPost_ret (Pm.res_c rfl _ _ ⟨g, 0, none⟩ _ rfl (load_st (x1 := 3) (x2 := 6) (x3 := 2) (x4 := 5) ((((P0.out.set 0 _).set 1 _).set 2 _).set 3 _))) rfl ⟨rfl, ?_⟩
  have h : w.heap.size ≤ g := by rw [HG.out]; exact Nat.le_refl _
  exact (((BW.out.set h _).set h _).set h _).set h _
set_option maxHeartbeats 1000000 in
theorem entry_ (o a b c d u n : Int) (w : World) : Calls Tryz.prog 45 #[.int .i64 o, .agg #[.int .i64 a, .int .i64 b, .int .i64 c, .int .i64 d], .int .i64 u, .int .u64 n] w fun e w' => e = .returned (.agg #[.int .i64 o, .int .i64 a, .int .i64 b, .int .i64 c, .int .i64 d, .int .i64 u, .int .u64 n, .int .u64 n]) ∧ Bel w w' := by
  obtain ⟨W, hW⟩ : ∃ W, (w.alloc (.cells #[.int .i64 a, .int .i64 b, .int .i64 c, .int .i64 d] 51)).alloc (.cells #[.int .i64 0, .int .i64 0, .int .i64 0, .int .i64 0, .int .i64 0, .int .i64 0, .int .u64 0, .int .u64 0] 53) = W := ⟨_, rfl⟩
  have BW := Lib.hid (show Bel w W by rw [← hW]; exact ((Bel.refl w).alloc _).alloc _)
  have P1 := Lib.hid (show Blk W w.heap.size #[.int .i64 a, .int .i64 b, .int .i64 c, .int .i64 d] 51 by rw [← hW]; exact (Blk.new w _ _).alloc _)
  have P0 := Lib.hid (show Blk W (w.heap.size + 1) #[.int .i64 0, .int .i64 0, .int .i64 0, .int .i64 0, .int .i64 0, .int .i64 0, .int .u64 0, .int .u64 0] 53 by
    rw [← hW]
    have := Blk.new (w.alloc (.cells #[.int .i64 a, .int .i64 b, .int .i64 c, .int .i64 d] 51)) #[.int .i64 0, .int .i64 0, .int .i64 0, .int .i64 0, .int .i64 0, .int .i64 0, .int .u64 0, .int .u64 0] 53
    rw [World.size_alloc] at this
    exact this)
  have HW := Lib.hid hW
  clear hW
  go_enter Tryz.func45, Tryz.ntmps45
  go_upto_region 1 with fail
  rw [HW.out]
  obtain ⟨g, hg⟩ : ∃ g, w.heap.size + 1 = g := ⟨_, rfl⟩
  obtain ⟨g1, hg1⟩ : ∃ g, w.heap.size = g := ⟨_, rfl⟩
  rw [hg] at P0 ⊢
  rw [hg1] at P1 ⊢
  have HG := Lib.hid (show w.heap.size ≤ g by omega)
  clear hg hg1
  have d0 := P1.out.cell 0 rfl
  have d1 := P1.out.cell 1 rfl
  have d2 := P1.out.cell 2 rfl
  have d3 := P1.out.cell 3 rfl
  have c0 := P0.out.cell 0 rfl
  have f0 := P0.out.frozen 0
  have c1 := P0.out.cell 1 rfl
  have f1 := P0.out.frozen 1
  have c2 := P0.out.cell 2 rfl
  have f2 := P0.out.frozen 2
  have c3 := P0.out.cell 3 rfl
  have f3 := P0.out.frozen 3
  have c4 := P0.out.cell 4 rfl
  have f4 := P0.out.frozen 4
  have c5 := P0.out.cell 5 rfl
  have f5 := P0.out.frozen 5
  have c6 := P0.out.cell 6 rfl
  have f6 := P0.out.frozen 6
  have c7 := P0.out.cell 7 rfl
  have f7 := P0.out.frozen 7
  go_wp2_with fail
  refine bodyPost_ret (Pm.res_c rfl _ _ ⟨g, 0, none⟩ _ rfl (load_e (o := o) (v := a) (si := b) (p := c) (f := d) (c := u) (i := n) (n := n) ((((((((P0.out.set 0 _).set 1 _).set 2 _).set 3 _).set 4 _).set 5 _).set 6 _).set 7 _))) rfl ⟨rfl, ?_⟩
  have h := HG.out
  exact (((((((BW.out.set h _).set h _).set h _).set h _).set h _).set h _).set h _).set h _
set_option maxRecDepth 100000 in
set_option maxHeartbeats 8000000 in
theorem chapter_ (w : World) : Calls Tryz.prog 15 #[] w fun e w' => ∃ A c, e = .returned (.slice A 3 c) ∧ Rw.RS eR w' A 3 c C3 ∧ Bel w w' := by
  have K0 := Lib.hid (Bel.refl w)
  go_enter Tryz.func15, Tryz.ntmps15
  go_wp2_with fail
  refine (two_ _).mono ?_
  rintro e w1 ⟨rfl, kb⟩
  have K1 := Lib.hid (K0.out.trans kb)
  clear kb
  go_wp2_with fail
  refine (entry_ 0 2 5 (-1) 0 9 10 _).mono ?_
  rintro e w2 ⟨rfl, kb⟩
  have K2 := Lib.hid (K1.out.trans kb)
  clear kb
  go_wp2_with fail
  refine (two_ _).mono ?_
  rintro e w3 ⟨rfl, kb⟩
  have K3 := Lib.hid (K2.out.trans kb)
  clear kb
  go_wp2_with fail
  refine (entry_ 1 2 5 (-1) 0 9 20 _).mono ?_
  rintro e w4 ⟨rfl, kb⟩
  have K4 := Lib.hid (K3.out.trans kb)
  clear kb
  go_wp2_with fail
  refine (hop_ _).mono ?_
  rintro e w5 ⟨rfl, kb⟩
  have K5 := Lib.hid (K4.out.trans kb)
  clear kb
  go_wp2_with fail
  refine (entry_ 0 3 6 2 5 12 30 _).mono ?_
  rintro e w6 ⟨rfl, kb⟩
  have K6 := Lib.hid (K5.out.trans kb)
  clear kb
  go_upto_region 3 with fail
  obtain ⟨W, hW⟩ : ∃ W, w6.alloc (.cells #[.int .i64 0, .int .i64 2, .int .i64 5, .int .i64 (-1), .int .i64 0, .int .i64 9, .int .u64 10, .int .u64 10, .int .i64 1, .int .i64 2, .int .i64 5, .int .i64 (-1), .int .i64 0, .int .i64 9, .int .u64 20, .int .u64 20, .int .i64 0, .int .i64 3, .int .i64 6, .int .i64 2, .int .i64 5, .int .i64 12, .int .u64 30, .int .u64 30] 53) = W := ⟨_, rfl⟩
  have HBK := Lib.hid (show Blk W w6.heap.size #[.int .i64 0, .int .i64 2, .int .i64 5, .int .i64 (-1), .int .i64 0, .int .i64 9, .int .u64 10, .int .u64 10, .int .i64 1, .int .i64 2, .int .i64 5, .int .i64 (-1), .int .i64 0, .int .i64 9, .int .u64 20, .int .u64 20, .int .i64 0, .int .i64 3, .int .i64 6, .int .i64 2, .int .i64 5, .int .i64 12, .int .u64 30, .int .u64 30] 53 by rw [← hW]; exact Blk.new w6 _ _)
  have KW := Lib.hid (show Bel w W by rw [← hW]; exact K6.out.alloc _)
  rw [hW]
  obtain ⟨g, hg⟩ : ∃ g, w6.heap.size = g := ⟨_, rfl⟩
  rw [hg] at HBK ⊢
  clear hW hg K0 K1 K2 K3 K4 K5 K6
  go_wp2_with fail
  go_loopw [0, 1, 3] (fun s0 s1 s3 wr => ∃ k : Nat, k ≤ 3 ∧ s3 = .int .i64 k ∧ s0 = .slice none 0 0 ∧ Hid (OwnE wr w.heap.size s1 (C3.take k)) ∧ Hid (Blk wr g #[.int .i64 0, .int .i64 2, .int .i64 5, .int .i64 (-1), .int .i64 0, .int .i64 9, .int .u64 10, .int .u64 10, .int .i64 1, .int .i64 2, .int .i64 5, .int .i64 (-1), .int .i64 0, .int .i64 9, .int .u64 20, .int .u64 20, .int .i64 0, .int .i64 3, .int .i64 6, .int .i64 2, .int .i64 5, .int .i64 12, .int .u64 30, .int .u64 30] 53) ∧ Hid (Bel w wr)) (fun _ _ s3 _ => 3 - (intOf s3).toNat)
  case atStart => exact ⟨0, by omega, rfl, rfl, Lib.hid (Rw.OwnR.nil_ _ _ _ _), HBK, KW⟩
  case round =>
    obtain ⟨k, hk, rfl, rfl, hm, HBK, hh⟩ := hrel
    obtain ⟨Am, cm, rfl, hmr⟩ := Rw.OwnR.slice hm.out
    by_cases hlt : k < 3
    · have h3 : k = 0 ∨ k = 1 ∨ k = 2 := by omega
      clear hm
      rcases h3 with rfl | rfl | rfl
      · have AD := Lib.hid (add Am 0 cm (C3.take 0) 0 2 5 (-1) 0 9 10 10 2 wr hmr (by decide) (fun r hr => wd3 r (List.mem_of_mem_take hr)) (by decide))
        have c0 := HBK.out.cell 0 rfl
        have c1 := HBK.out.cell 1 rfl
        have c2 := HBK.out.cell 2 rfl
        have c3 := HBK.out.cell 3 rfl
        have c4 := HBK.out.cell 4 rfl
        have c5 := HBK.out.cell 5 rfl
        have c6 := HBK.out.cell 6 rfl
        have c7 := HBK.out.cell 7 rfl
        clear hmr
        go_wp2_with fail
        refine AD.out.mono ?_
        rintro e w9 ⟨y9, rfl, ho, kb⟩
        rw [show addE (C3.take 0) (0, 2, 5, -1, 0, 9, 10, 10) 2 = 0 by decide +kernel]
        rw [show addL (C3.take 0) (0, 2, 5, -1, 0, 9, 10, 10) 2 = C3.take 1 by decide +kernel] at ho
        have S1 := Lib.hid (show OwnE w9 w.heap.size y9 (C3.take 1) from ho.mono (Below.size hh.out))
        have S2 := Lib.hid (HBK.out.bel kb)
        have S3 := Lib.hid (hh.out.trans kb)
        clear ho kb AD c0 c1 c2 c3 c4 c5 c6 c7
        go_wp2_with fail
        go_roundw
        case rel => exact ⟨1, by omega, rfl, rfl, S1, S2, S3⟩
        case measure => simp [intOf]
      · have AD := Lib.hid (add Am 1 cm (C3.take 1) 1 2 5 (-1) 0 9 20 20 2 wr hmr (by decide) (fun r hr => wd3 r (List.mem_of_mem_take hr)) (by decide))
        have c0 := HBK.out.cell 8 rfl
        have c1 := HBK.out.cell 9 rfl
        have c2 := HBK.out.cell 10 rfl
        have c3 := HBK.out.cell 11 rfl
        have c4 := HBK.out.cell 12 rfl
        have c5 := HBK.out.cell 13 rfl
        have c6 := HBK.out.cell 14 rfl
        have c7 := HBK.out.cell 15 rfl
        clear hmr
        go_wp2_with fail
        refine AD.out.mono ?_
        rintro e w9 ⟨y9, rfl, ho, kb⟩
        rw [show addE (C3.take 1) (1, 2, 5, -1, 0, 9, 20, 20) 2 = 0 by decide +kernel]
        rw [show addL (C3.take 1) (1, 2, 5, -1, 0, 9, 20, 20) 2 = C3.take 2 by decide +kernel] at ho
        have S1 := Lib.hid (show OwnE w9 w.heap.size y9 (C3.take 2) from ho.mono (Below.size hh.out))
        have S2 := Lib.hid (HBK.out.bel kb)
        have S3 := Lib.hid (hh.out.trans kb)
        clear ho kb AD c0 c1 c2 c3 c4 c5 c6 c7
        go_wp2_with fail
        go_roundw
        case rel => exact ⟨2, by omega, rfl, rfl, S1, S2, S3⟩
        case measure => simp [intOf]
      · have AD := Lib.hid (add Am 2 cm (C3.take 2) 0 3 6 2 5 12 30 30 2 wr hmr (by decide) (fun r hr => wd3 r (List.mem_of_mem_take hr)) (by decide))
        have c0 := HBK.out.cell 16 rfl
        have c1 := HBK.out.cell 17 rfl
        have c2 := HBK.out.cell 18 rfl
        have c3 := HBK.out.cell 19 rfl
        have c4 := HBK.out.cell 20 rfl
        have c5 := HBK.out.cell 21 rfl
        have c6 := HBK.out.cell 22 rfl
        have c7 := HBK.out.cell 23 rfl
        clear hmr
        go_wp2_with fail
        refine AD.out.mono ?_
        rintro e w9 ⟨y9, rfl, ho, kb⟩
        rw [show addE (C3.take 2) (0, 3, 6, 2, 5, 12, 30, 30) 2 = 0 by decide +kernel]
        rw [show addL (C3.take 2) (0, 3, 6, 2, 5, 12, 30, 30) 2 = C3.take 3 by decide +kernel] at ho
        have S1 := Lib.hid (show OwnE w9 w.heap.size y9 (C3.take 3) from ho.mono (Below.size hh.out))
        have S2 := Lib.hid (HBK.out.bel kb)
        have S3 := Lib.hid (hh.out.trans kb)
        clear ho kb AD c0 c1 c2 c3 c4 c5 c6 c7
        go_wp2_with fail
        go_roundw
        case rel => exact ⟨3, by omega, rfl, rfl, S1, S2, S3⟩
        case measure => simp [intOf]
    · obtain rfl : k = 3 := by omega
      have WN := Lib.hid (show Rw.RS eR wr (some ⟨g, 0, none⟩) 3 3 C3 from Rw.rs_blk eR HBK.out rfl (Nat.le_refl _) rfl)
      have hmr : Rw.RS eR wr Am 3 cm C3 := hmr
      have HMR := Lib.hid hmr
      have SE := Lib.hid (show Calls Tryz.prog 12 #[.slice Am 3 cm, .slice (some ⟨g, 0, none⟩) 3 3] wr fun e w' => e = .returned (.bool true) ∧ Bel wr w' by have h := same_entries Am (some ⟨g, 0, none⟩) 3 cm 3 3 C3 C3 wr hmr WN.out (by decide) (by decide); rwa [decide_eq_true (rfl : C3 = C3)] at h)
      have hlen : (C3.take 3).length = 3 := rfl
      clear hmr
      go_wp2_with fail
      refine SE.out.mono ?_
      rintro e w9 ⟨rfl, kb⟩
      have S1 := Lib.hid (HMR.out.bel kb)
      have S3 := Lib.hid (hh.out.trans kb)
      clear kb SE
      go_wp2_with fail
      go_ret
      exact ⟨Am, cm, rfl, S1.out, S3.out⟩
theorem cell_bel {w w' : World} {b o : Nat} {v : Value} (h : w.cell? ⟨b, o, none⟩ = some v) (hb : Bel w w') : w'.cell? ⟨b, o, none⟩ = some v := by
  have h1 : w.rangeAt b o [v] := fun j u hj => by
    cases j with
    | zero => cases hj; exact h
    | succ j => simp at hj
  exact Pm.rng_bel h1 hb 0 v rfl
set_option maxRecDepth 100000 in
set_option maxHeartbeats 8000000 in
theorem cuts_ (v h p N : Int) (B : Option Addr) (m d : Nat) (ws : List Int) (w : World) (hb : Rw.RS uR w B m d ws) (hm : m ≤ 100) (hE : ctE C3 v h p = 0) (hN : ctN C3 v h p = N) (hl : (ctS C3 v h p).length = m) (hS : ∀ (i : Nat) (x : Int), ws[i]? = some x → (ctS C3 v h p)[i]? = some ((i : Int), x)) (hp : 0 ≤ p ∧ p ≤ 18446744073709551615) :
    Calls Tryz.prog 18 #[.int .i64 v, .int .i64 h, .int .u64 p, .int .u64 N, .slice B m d] w fun e w' => e = .returned (.bool true) ∧ Bel w w' := by
  have HB := Lib.hid hb
  have HS := Lib.hid hS
  have HL := Lib.hid hl
  have CT := Lib.hid (fun A c W (hr : Rw.RS eR W A 3 c C3) => cut A 3 c C3 v h p W hr (by decide) wd3 hp)
  have HE := Lib.hid hE
  have HN := Lib.hid hN
  obtain ⟨S, hSS⟩ : ∃ S, ctS C3 v h p = S := ⟨_, rfl⟩
  rw [hSS] at HS HL
  have HSS := Lib.hid hSS
  clear hb hS hl hE hN hSS hp
  go_enter Tryz.func18, Tryz.ntmps18
  go_wp2_with fail
  refine (chapter_ _).mono ?_
  rintro e w1 ⟨A, c, rfl, hr, kb⟩
  have K1 := Lib.hid kb
  have CT := Lib.hid (CT.out A c w1 hr)
  clear kb hr
  go_wp2_with fail
  refine CT.out.mono ?_
  rintro e w2 ⟨y1, y2, rfl, _, ho, kb⟩
  rw [HSS.out] at ho
  rw [HE.out, HN.out]
  obtain ⟨A2, c2, rfl, hr2⟩ := Rw.OwnR.slice ho
  rw [HL.out] at hr2 ⊢
  have HR2 := Lib.hid hr2
  have K2 := Lib.hid (K1.out.trans kb)
  clear kb ho CT hr2
  go_wp2_with fail
  go_loopw [10, 15] (fun s10 s15 wr => ∃ k : Nat, k ≤ m ∧ s15 = .int .i64 k ∧ s10 = .bool false ∧ Hid (Rw.RS sR wr A2 m c2 S) ∧ Hid (Bel w wr)) (fun _ s15 _ => m - (intOf s15).toNat)
  case atStart => exact ⟨0, Nat.zero_le _, rfl, rfl, HR2, K2⟩
  case round =>
    obtain ⟨k, hk, rfl, rfl, hs, hh⟩ := hrel
    by_cases hlt : k < m
    · obtain ⟨x, hx⟩ := HB.out.get hlt
      have hsx := HS.out k x hx
      obtain ⟨sb, so, rfl, _, hrow⟩ := hs.out.at hlt hsx
      obtain ⟨ub, uo, rfl, _, hurow⟩ := (HB.out.bel hh.out).at hlt hx
      have HROW := Lib.hid (show wr.rangeAt sb (so + k * 2) [.int .i64 k, .int .u64 x] from hrow)
      have HU := Lib.hid (show wr.cell? ⟨ub, uo + k, none⟩ = some (.int .u64 x) by
        have := hurow 0 (.int .u64 x) rfl
        rw [show uo + k * uR.z + 0 = uo + k by show uo + k * 1 + 0 = _; omega] at this
        exact this)
      have EQ := Lib.hid (fun V : World => (show (binOp .neq 90 (.agg #[.int .i64 k, .int .u64 x]) (.agg #[.int .i64 k, .int .u64 x])).run Tryz.prog V = .ok (.bool false) V by rw [Rw.neq_shave]; simp))
      have hlt3 : (k : Int) < m := by omega
      have hlt0 : (0 : Int) ≤ k := by omega
      clear hx hsx hrow hurow
      go_upto_region 7 with fail
      refine wp_region_held_drew (S := fun Vx => Bel wr Vx) (by kernel_rfl) (Bel.refl _).drew (fun hS0 => ?_)
      obtain ⟨w6, hw6⟩ : ∃ w6, World.drew wr = w6 := ⟨_, rfl⟩
      rw [hw6] at hS0 ⊢
      clear hw6
      refine wpAnyH_take (i := 0) (oi := { dst := some 46, op := .move (.tmp 12), type := 86, pos := "outright.go:45", after := #[], guard := none }) (v := .slice (some ⟨sb, so, none⟩) m c2) rfl (by kernel_rfl) (by kernel_rfl) (by kernel_rfl) (fun _ _ _ h => h) (Or.inl ⟨by rfl, by intro w hSw; clear hSw; go_simp⟩) hS0 ?_
      try simp only [Act.put, List.setIfInBounds_toArray, List.set_cons_zero, List.set_cons_succ]
      refine wpAnyH_take (i := 1) (oi := { dst := some 47, op := .move (.tmp 15), type := 3, pos := "outright.go:45", after := #[], guard := none }) (v := .int .i64 k) rfl (by kernel_rfl) (by kernel_rfl) (by kernel_rfl) (fun _ _ _ h => h) (Or.inl ⟨by rfl, by intro w hSw; clear hSw; go_simp⟩) hS0 ?_
      try simp only [Act.put, List.setIfInBounds_toArray, List.set_cons_zero, List.set_cons_succ]
      refine wpAnyH_take (i := 2) (oi := { dst := some 48, op := .indexAddr 86 (.tmp 46) (.tmp 47), type := 0, pos := "outright.go:45", after := #[{ on := 0, ground := .data }, { on := 1, ground := .data }], guard := none }) (v := .pointer (some ⟨sb, so + k * 2, none⟩)) rfl (by kernel_rfl) (by kernel_rfl) (by kernel_rfl) (fun _ _ _ h => h) (Or.inl ⟨by rfl, by intro w hSw; clear hSw; go_simp⟩) hS0 ?_
      try simp only [Act.put, List.setIfInBounds_toArray, List.set_cons_zero, List.set_cons_succ]
      refine wpAnyH_take (i := 3) (oi := { dst := some 49, op := .load 90 (.tmp 48), type := 90, pos := "outright.go:45", after := #[{ on := 2, ground := .data }], guard := none }) (v := .agg #[.int .i64 k, .int .u64 x]) rfl (by kernel_rfl) (by kernel_rfl) (by kernel_rfl) (fun _ _ _ h => h) (yieldsIf_load_mid (by rfl) _ _ rfl _ _ rfl _ _ (fun w h => Pm.rng_bel HROW.out h) Tryz.underlying90 rfl info_S) hS0 ?_
      try simp only [Act.put, List.setIfInBounds_toArray, List.set_cons_zero, List.set_cons_succ]
      refine wpAnyH_take (i := 4) (oi := { dst := some 50, op := .move (.tmp 15), type := 3, pos := "outright.go:45", after := #[], guard := none }) (v := .int .i64 k) rfl (by kernel_rfl) (by kernel_rfl) (by kernel_rfl) (fun _ _ _ h => h) (Or.inl ⟨by rfl, by intro w hSw; clear hSw; go_simp⟩) hS0 ?_
      try simp only [Act.put, List.setIfInBounds_toArray, List.set_cons_zero, List.set_cons_succ]
      refine wpAnyH_take (i := 5) (oi := { dst := some 51, op := .move (.tmp 4), type := 85, pos := "outright.go:45", after := #[], guard := none }) (v := .slice (some ⟨ub, uo, none⟩) m d) rfl (by kernel_rfl) (by kernel_rfl) (by kernel_rfl) (fun _ _ _ h => h) (Or.inl ⟨by rfl, by intro w hSw; clear hSw; go_simp⟩) hS0 ?_
      try simp only [Act.put, List.setIfInBounds_toArray, List.set_cons_zero, List.set_cons_succ]
      refine wpAnyH_take (i := 6) (oi := { dst := some 52, op := .move (.tmp 15), type := 3, pos := "outright.go:45", after := #[], guard := none }) (v := .int .i64 k) rfl (by kernel_rfl) (by kernel_rfl) (by kernel_rfl) (fun _ _ _ h => h) (Or.inl ⟨by rfl, by intro w hSw; clear hSw; go_simp⟩) hS0 ?_
      try simp only [Act.put, List.setIfInBounds_toArray, List.set_cons_zero, List.set_cons_succ]
      refine wpAnyH_take (i := 7) (oi := { dst := some 53, op := .indexAddr 85 (.tmp 51) (.tmp 52), type := 0, pos := "outright.go:45", after := #[{ on := 5, ground := .data }, { on := 6, ground := .data }], guard := none }) (v := .pointer (some ⟨ub, uo + k, none⟩)) rfl (by kernel_rfl) (by kernel_rfl) (by kernel_rfl) (fun _ _ _ h => h) (Or.inl ⟨by rfl, by intro w hSw; clear hSw; go_simp⟩) hS0 ?_
      try simp only [Act.put, List.setIfInBounds_toArray, List.set_cons_zero, List.set_cons_succ]
      refine wpAnyH_take (i := 8) (oi := { dst := some 54, op := .load 39 (.tmp 53), type := 39, pos := "outright.go:45", after := #[{ on := 7, ground := .data }], guard := none }) (v := .int .u64 x) rfl (by kernel_rfl) (by kernel_rfl) (by kernel_rfl) (fun _ _ _ h => h) (Or.inl ⟨by rfl, by intro w h; have hcell := (cell_bel HU.out h); clear h; go_simp⟩) hS0 ?_
      try simp only [Act.put, List.setIfInBounds_toArray, List.set_cons_zero, List.set_cons_succ]
      refine wpAnyH_take (i := 9) (oi := { dst := some 55, op := .build 90 #[(0, .tmp 50), (1, .tmp 54)], type := 90, pos := "outright.go:45", after := #[{ on := 4, ground := .data }, { on := 8, ground := .data }], guard := none }) (v := .agg #[.int .i64 k, .int .u64 x]) rfl (by kernel_rfl) (by kernel_rfl) (by kernel_rfl) (fun _ _ _ h => h) (Or.inl ⟨by rfl, by intro w hSw; clear hSw; go_simp⟩) hS0 ?_
      try simp only [Act.put, List.setIfInBounds_toArray, List.set_cons_zero, List.set_cons_succ]
      refine wpAnyH_take (i := 10) (oi := { dst := some 56, op := .binOp .neq 90 (.tmp 49) (.tmp 55) 90, type := 4, pos := "outright.go:45", after := #[{ on := 3, ground := .data }, { on := 9, ground := .data }], guard := none }) (v := .bool false) rfl (by kernel_rfl) (by kernel_rfl) (by kernel_rfl) (fun _ _ _ h => h) (Or.inl ⟨by rfl, fun w _ => Rw.exec_neq rfl _ _ rfl rfl (by kernel_rfl) EQ.out w⟩) hS0 ?_
      try simp only [Act.put, List.setIfInBounds_toArray, List.set_cons_zero, List.set_cons_succ]
      refine wpAnyH_done (by kernel_rfl) ?_ _
      have HS5 := Lib.hid hS0
      clear hS0
      go_wp2_with fail
      go_roundw
      case rel => exact ⟨k + 1, by omega, by go_num, rfl, Lib.hid (hs.out.bel HS5.out), Lib.hid (hh.out.trans HS5.out)⟩
      case measure => simp [intOf]; omega
    · obtain rfl : k = m := by omega
      go_wp2_with fail
      go_ret
      exact ⟨rfl, hh.out⟩
set_option maxRecDepth 100000 in
set_option maxHeartbeats 8000000 in
theorem awake (w : World) : Calls Tryz.prog 4 #[] w fun e w' => e = .returned (.bool true) ∧ Bel w w' := by
  go_enter Tryz.func4, Tryz.ntmps4
  go_wp2_with fail
  refine (chapter_ _).mono ?_
  rintro e w1 ⟨A, c, rfl, hr, kb⟩
  have K1 := Lib.hid kb
  have HR := Lib.hid hr
  clear kb hr
  have TT := Lib.hid (total A 3 c C3 w1 HR.out (by decide) wd3)
  rw [show totN C3 = 60 by decide +kernel, show (chk C3).1 = 0 by decide +kernel] at TT
  go_wp2_with fail
  refine TT.out.mono ?_
  rintro e w2 ⟨rfl, kb⟩
  have K2 := Lib.hid (K1.out.trans kb)
  have LV := Lib.hid (liveX A 3 c C3 0 2 w2 (HR.out.bel kb) (by decide))
  rw [show live C3 0 2 = 1 by decide +kernel] at LV
  clear kb TT HR
  go_wp2_with fail
  refine LV.out.mono ?_
  rintro e w3 ⟨rfl, kb⟩
  have K3 := Lib.hid (K2.out.trans kb)
  clear kb LV
  have HC3 := Lib.hid (cuts_ 2 6 500000000 30 (some ⟨w3.heap.size, 0, none⟩) 3 3 [5, 10, 15] (w3.alloc (.cells #[.int .u64 5, .int .u64 10, .int .u64 15] 39)) (Rw.rs_blk uR (Blk.new w3 #[.int .u64 5, .int .u64 10, .int .u64 15] 39) rfl (Nat.le_refl _) rfl) (by decide) (by decide +kernel) (by decide +kernel) (by decide +kernel) (fun i x hx => by
    have hi := (List.getElem?_eq_some_iff.1 hx).1
    have e : ctS C3 2 6 500000000 = [(0, 5), (1, 10), (2, 15)] := by decide +kernel
    rw [e]
    have : i < 3 := hi
    match i, this with
    | 0, _ => cases hx; rfl
    | 1, _ => cases hx; rfl
    | 2, _ => cases hx; rfl) (by decide))
  go_wp2_with fail
  refine HC3.out.mono ?_
  rintro e w4 ⟨rfl, kb⟩
  have K4 := Lib.hid ((K3.out.alloc _).trans kb)
  clear kb
  have HC4 := Lib.hid (cuts_ 2 9 500000000 15 (some ⟨w4.heap.size, 0, none⟩) 2 2 [5, 10] (w4.alloc (.cells #[.int .u64 5, .int .u64 10] 39)) (Rw.rs_blk uR (Blk.new w4 #[.int .u64 5, .int .u64 10] 39) rfl (Nat.le_refl _) rfl) (by decide) (by decide +kernel) (by decide +kernel) (by decide +kernel) (fun i x hx => by
    have hi := (List.getElem?_eq_some_iff.1 hx).1
    have e : ctS C3 2 9 500000000 = [(0, 5), (1, 10)] := by decide +kernel
    rw [e]
    have : i < 2 := hi
    match i, this with
    | 0, _ => cases hx; rfl
    | 1, _ => cases hx; rfl) (by decide))
  go_wp2_with fail
  refine HC4.out.mono ?_
  rintro e w5 ⟨rfl, kb⟩
  have K5 := Lib.hid ((K4.out.alloc _).trans kb)
  clear kb
  go_wp2_with fail
  go_ret
  exact ⟨rfl, K5.out⟩
end Qu
end Go.Proofs.YtcefjigbaglmeaaGreat
end

section
/-
  Entries as they come in. No condition.
-/
namespace Go.Proofs.YtcefjigbaglmeaaGreat
open Go.RowKit Go.Shelf
set_option linter.unusedVariables false
set_option linter.unusedSimpArgs false
set_option Elab.async false
namespace Qu
open Kk Pm

/-- Entries as they come in. -/
def Ents (w : World) (A : Option Addr) (n c : Nat) : Prop :=
  n ≤ c ∧ (A = none → c = 0) ∧ (0 < n → ∃ b o, A = some ⟨b, o, none⟩ ∧ b < w.heap.size ∧ ∀ i, i < n → ∃ (z0 z1 z2 z3 z4 z5 z6 z7 : Int), (-9223372036854775808 ≤ z0 ∧ z0 ≤ 9223372036854775807 ∧ -9223372036854775808 ≤ z1 ∧ z1 ≤ 9223372036854775807 ∧ -9223372036854775808 ≤ z2 ∧ z2 ≤ 9223372036854775807 ∧ -9223372036854775808 ≤ z3 ∧ z3 ≤ 9223372036854775807 ∧ -9223372036854775808 ≤ z4 ∧ z4 ≤ 9223372036854775807 ∧ -9223372036854775808 ≤ z5 ∧ z5 ≤ 9223372036854775807 ∧ 0 ≤ z6 ∧ z6 ≤ 18446744073709551615 ∧ 0 ≤ z7 ∧ z7 ≤ 18446744073709551615) ∧ w.rangeAt b (o + i * 8) [.int .i64 z0, .int .i64 z1, .int .i64 z2, .int .i64 z3, .int .i64 z4, .int .i64 z5, .int .u64 z6, .int .u64 z7])
theorem rows_in {α : Type} (K : Rw.Row α) (G : α → Prop) {w : World} {b o : Nat} : ∀ (n : Nat), (∀ i, i < n → ∃ r : α, G r ∧ w.rangeAt b (o + i * K.z) (K.k r)) →
    ∃ l : List α, l.length = n ∧ (∀ r ∈ l, G r) ∧ ∀ i r, l[i]? = some r → w.rangeAt b (o + i * K.z) (K.k r)
  | 0, _ => ⟨[], rfl, fun r h => (by cases h), fun i r h => (by simp at h)⟩
  | n + 1, h => by
    obtain ⟨l, h1, h2, h3⟩ := rows_in K G n (fun i hi => h i (by omega))
    obtain ⟨r0, hz, hr⟩ := h n (by omega)
    refine ⟨l ++ [r0], by simp [h1], fun r hr' => ?_, fun i r hi => ?_⟩
    · rcases List.mem_append.1 hr' with h' | h'
      · exact h2 r h'
      · rw [List.mem_singleton] at h'
        subst h'
        exact hz
    · rcases Nat.lt_or_ge i n with h' | h'
      · rw [List.getElem?_append_left (by omega)] at hi
        exact h3 i r hi
      · have hin : i = n := by have := (List.getElem?_eq_some_iff.1 hi).1; simp at this; omega
        subst hin
        rw [List.getElem?_append_right (by omega), h1, Nat.sub_self] at hi
        injection hi with hi
        subst hi
        exact hr
theorem ents_rs {w : World} {A : Option Addr} {n c : Nat} (h : Ents w A n c) : ∃ l, Rw.RS eR w A n c l ∧ Wd l := by
  obtain ⟨h1, h2, h3⟩ := h
  by_cases h0 : 0 < n
  · obtain ⟨b, o, rfl, hb, hr⟩ := h3 h0
    obtain ⟨l, q1, q2, q3⟩ := rows_in eR (fun r => 0 ≤ bal r ∧ bal r ≤ 18446744073709551615) (w := w) (b := b) (o := o) n (fun i hi => by
      obtain ⟨z0, z1, z2, z3, z4, z5, z6, z7, hz, hc⟩ := hr i hi
      exact ⟨(z0, z1, z2, z3, z4, z5, z6, z7), hz.2.2.2.2.2.2.2.2.2.2.2.2.2.2, hc⟩)
    exact ⟨l, ⟨q1, h1, h2, fun _ => ⟨b, o, rfl, hb, q3⟩⟩, q2⟩
  · obtain rfl : n = 0 := by omega
    exact ⟨[], ⟨rfl, h1, h2, fun h => absurd h (by omega)⟩, fun r hr => by cases hr⟩
/-- Written over, one's own memory leaves what was before. -/
theorem ov_bel {w1 wb wa : World} {base : Nat} {A : Option Addr} {n c : Nat} {l : List E8} (h : OwnE wb base (.slice A n c) l) (hb : Bel w1 wb) (hbase : w1.heap.size ≤ base) (ko : Ov A n wb wa) : Bel w1 wa :=
  Kep.bel hb ko.kep (fun k hk => by
    obtain ⟨_, x, rfl, rfl⟩ := hk
    exact Nat.le_trans hbase (Rw.own_ge h rfl))
theorem ov_belS {w1 wb wa : World} {base : Nat} {A : Option Addr} {n c : Nat} {l : List S2} (h : OwnS wb base (.slice A n c) l) (hb : Bel w1 wb) (hbase : w1.heap.size ≤ base) (ko : OvS A n wb wa) : Bel w1 wa :=
  Kep.bel hb ko.kep (fun k hk => by
    obtain ⟨_, x, rfl, rfl⟩ := hk
    exact Nat.le_trans hbase (Rw.own_ge h rfl))
theorem hv_bel1 {w1 wb wa wh : World} {base : Nat} {A1 A2 : Option Addr} {n1 c1 n2 c2 : Nat} {l1 l2 : List E8} (h : Halves wh base A1 n1 c1 A2 n2 c2 l1 l2) (hb : Bel w1 wb) (hbase : w1.heap.size ≤ base) (ko : Ov A1 n1 wb wa) : Bel w1 wa :=
  Kep.bel hb ko.kep (fun k hk => by
    obtain ⟨h0, x, hx, rfl⟩ := hk
    rcases h.g with ⟨h1, h2⟩ | ⟨g, cur, h1, h2, h3, h4, h5⟩
    · omega
    · rw [h3 h0] at hx
      injection hx with hx
      subst hx
      exact Nat.le_trans hbase h1)
theorem hv_bel2 {w1 wb wa wh : World} {base : Nat} {A1 A2 : Option Addr} {n1 c1 n2 c2 : Nat} {l1 l2 : List E8} (h : Halves wh base A1 n1 c1 A2 n2 c2 l1 l2) (hb : Bel w1 wb) (hbase : w1.heap.size ≤ base) (ko : Ov A2 n2 wb wa) : Bel w1 wa :=
  Kep.bel hb ko.kep (fun k hk => by
    obtain ⟨h0, x, hx, rfl⟩ := hk
    rcases h.g with ⟨h1, h2⟩ | ⟨g, cur, h1, h2, h3, h4, h5⟩
    · omega
    · rw [h4 h0] at hx
      injection hx with hx
      subst hx
      exact Nat.le_trans hbase h1)
theorem addL_le (l : List E8) (x : E8) (m : Int) : (addL l x m).length ≤ l.length + 1 := by
  unfold addL
  split
  · simp
  · simp
theorem ripL_le (l : List E8) (h u : Int) : (ripL l h u).length ≤ l.length ∧ (lftL l h u).length ≤ l.length := by
  unfold ripL lftL
  constructor
  · split
    · exact List.length_filter_le _ _
    · simp
  · split
    · exact List.length_filter_le _ _
    · simp
theorem ctL_le (l : List E8) (v h p : Int) : (ctL l v h p).length ≤ l.length ∧ (ctS l v h p).length ≤ l.length := by
  unfold ctL ctS
  constructor
  · split
    · simp
    · simp
  · split
    · exact shv_len _ _ _ _ _
    · simp
theorem ofL_le (l : List E8) (o : Int) : (ofL l o).length ≤ l.length := List.length_filter_le _ _
end Qu
end Go.Proofs.YtcefjigbaglmeaaGreat
end
