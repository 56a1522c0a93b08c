/-
  What setting a field to a number, and back, comes to: no walk. Conditions: the eleven numbers are of their kinds; Check likes the record.
-/
import Derived.Test.YtpohcdfmkcfonaaGreatDoorPB
import Derived.Test.YtpohcdfmkcfonaaGreatDoorGPAw0
namespace Go.Proofs.YtpohcdfmkcfonaaGreatDoor
open Go.RowKit Go.Shelf
set_option linter.unusedVariables false
namespace Pm
open Kk

theorem at_nm (k : Nat) (hk : k < 11) : At (nm k) k := ⟨hk, rfl, fun j hj e => by
  have := nm_inj j k (by omega) hk e
  omega⟩
theorem okF_congr {x y : Nat → Int} (h : ∀ j, j < 11 → x j = y j) (i : Nat) (hi : i < 11) : okF x i = okF y i := by
  unfold okF wv
  rw [h i hi]
theorem Chk.congr {x y : Nat → Int} (h : ∀ j, j < 11 → x j = y j) {a b : Int} (hc : Chk x a b) : Chk y a b := by
  rcases hc with ⟨i, hi, h1, h2, h3, h4⟩ | ⟨h1, h2, h3, h4⟩ | ⟨h1, h2, h3, h4⟩
  · exact .inl ⟨i, hi, fun j hj => by rw [← okF_congr h j (by omega)]; exact h1 j hj, by rw [← okF_congr h i hi]; exact h2, h3, h4⟩
  · exact .inr (.inl ⟨fun j hj => by rw [← okF_congr h j hj]; exact h1 j hj, by rw [← h 0 (by omega), ← h 1 (by omega)]; exact h2, h3, h4⟩)
  · exact .inr (.inr ⟨fun j hj => by rw [← okF_congr h j hj]; exact h1 j hj, by rw [← h 0 (by omega), ← h 1 (by omega)]; exact h2, h3, h4⟩)
theorem chk_b {x : Nat → Int} {a b : Int} (h : Chk x a b) : a = 0 ∨ a = 3 ∨ a = 9 := by
  rcases h with ⟨_, _, _, _, h, _⟩ | ⟨_, _, h, _⟩ | ⟨_, _, h, _⟩
  · exact .inr (.inl h)
  · exact .inr (.inr h)
  · exact .inl h
theorem updk_at (x : Nat → Int) (k : Nat) (v : Int) : upd x k v k = v := if_pos rfl
theorem updk_no (x : Nat → Int) {k j : Nat} (v : Int) (h : j ≠ k) : upd x k v j = x j := if_neg h
/-- What Set answers of a field that there is, in a record that Check likes. -/
theorem st_nm {x : Nat → Int} (hc : Chk x 0 0) {k : Nat} (hk : k < 11) {n : Int} {y : Nat → Int} {a : Int} (h : St x (nm k) n y a) :
    (a = 0 ∧ y = upd x k (sv k n) ∧ Chk y 0 0) ∨ (y = zr ∧ a ≠ 0 ∧ (∃ b, Chk (upd x k (sv k n)) a b) ∧ (a = 3 ∨ (a = 9 ∧ k < 2))) := by
  rcases h with ⟨h1, _, i, hi, h2, h3⟩ | ⟨h1, h2, (⟨b, hb⟩ | ⟨_, hno, _⟩) | ⟨_, i, b, hi, hb⟩⟩
  · obtain rfl := hi.uniq (at_nm k hk)
    exact .inl ⟨h1, h2, h3⟩
  · exact absurd (hb.uniq hc).1 h1
  · exact absurd rfl (hno k hk)
  · obtain rfl := hi.uniq (at_nm k hk)
    refine .inr ⟨h2, h1, ⟨b, hb⟩, ?_⟩
    rcases chk_b hb with h | h | h
    · exact absurd h h1
    · exact .inl h
    · refine .inr ⟨h, ?_⟩
      apply Nat.lt_of_not_le
      intro hle
      rcases hb with ⟨_, _, _, _, h5, _⟩ | ⟨_, h5, _⟩ | ⟨_, _, h5, _⟩
      · omega
      · rw [updk_no _ _ (by omega), updk_no _ _ (by omega)] at h5
        have := hc.ok.2
        omega
      · omega
/-- The field's word behind it. -/
theorem wv_set (x : Nat → Int) (k : Nat) {n : Int} (h0 : 0 ≤ n) (h1 : n ≤ 18446744073709551615) : wv (upd x k (sv k n)) k = n := by
  unfold wv sv
  rw [updk_at]
  cases isU k with
  | true => rfl
  | false =>
    simp [IntKind.wrap, IntKind.bits, IntKind.signed, wrap64]
    omega
theorem ok_b {x : Nat → Int} (hx : Kinds x) (hc : Chk x 0 0) (i : Nat) (hi : i < 11) : 0 ≤ x i ∧ x i ≤ 1000000000 ∧ wv x i = x i ∧ fv x i = x i := by
  have ho := hc.ok.1 i hi
  have hb := okF_b hx i hi ho
  have hl := lohi i hi
  exact ⟨by omega, by omega, wv_ok hx i hi ho, fv_ok hx i hi ho⟩
theorem sv_in (k : Nat) {n : Int} (h0 : 0 ≤ n) (h1 : n ≤ 1000000000) : sv k n = n := by
  unfold sv
  cases isU k with
  | true => rfl
  | false =>
    simp [wrap64]
    omega
/-- Set back: the record is as it was. -/
theorem set_back {x : Nat → Int} (hx : Kinds x) (hc : Chk x 0 0) {k : Nat} (hk : k < 11) {n : Int} : ∀ j, j < 11 → upd (upd x k (sv k n)) k (sv k (x k)) j = x j := fun j hj => by
  by_cases e : j = k
  · subst e
    rw [updk_at]
    have hb := ok_b hx hc j hj
    exact sv_in j hb.1 hb.2.1
  · rw [updk_no _ _ e, updk_no _ _ e]
theorem st_back {x : Nat → Int} (hx : Kinds x) (hc : Chk x 0 0) {k : Nat} (hk : k < 11) {n : Int} (hy : Chk (upd x k (sv k n)) 0 0) {r : Nat → Int} {a : Int} (h : St (upd x k (sv k n)) (nm k) (x k) r a) : a = 0 ∧ recC r = recC x := by
  rcases st_nm hy hk h with ⟨h1, h2, _⟩ | ⟨_, h1, ⟨b, hb⟩, _⟩
  · exact ⟨h1, by rw [h2]; exact recC_congr (set_back hx hc hk)⟩
  · exact absurd ((hb.congr (set_back hx hc hk)).uniq hc).1 h1
theorem gt_nm {x : Nat → Int} (hc : Chk x 0 0) {i : Nat} (hi : i < 11) {n a : Int} (h : Gt x (nm i) n a) : a = 0 ∧ n = wv x i := by
  rcases h with ⟨h1, _, j, hj, h2⟩ | ⟨h1, _, ⟨b, hb⟩ | ⟨_, hno, _⟩⟩
  · obtain rfl := hj.uniq (at_nm i hi)
    exact ⟨h1, h2⟩
  · exact absurd (hb.uniq hc).1 h1
  · exact absurd rfl (hno i hi)
/-- What Near makes is a record that Check likes. -/
theorem near_ok {u p1 p2 p3 p4 p5 p6 p7 p8 p9 p10 : Int} (h0 : 1 ≤ u ∧ u ≤ 1048576) (h1 : 0 ≤ p1 ∧ p1 < u + 1) (h2 : 0 ≤ p2 ∧ p2 < 1000) (h3 : 0 ≤ p3 ∧ p3 < 256) (h4 : 0 ≤ p4 ∧ p4 < 16) (h5 : 0 ≤ p5 ∧ p5 < 32) (h6 : 0 ≤ p6 ∧ p6 < 1048576) (h7 : 0 ≤ p7 ∧ p7 < 1000000001) (h8 : 0 ≤ p8 ∧ p8 < 1001) (h9 : 0 ≤ p9 ∧ p9 < 1048576) (h10 : 0 ≤ p10 ∧ p10 < 1000000001) :
    Kinds (toR [u, p1, 1 + p2, 1 + p3, 1 + p4, 1 + p5, 1 + p6, p7, p8, 1 + p9, p10]) ∧ Chk (toR [u, p1, 1 + p2, 1 + p3, 1 + p4, 1 + p5, 1 + p6, p7, p8, 1 + p9, p10]) 0 0 := by
  have w7 : IntKind.u64.wrap p7 = p7 := wrap_in _ (by omega) (by omega)
  have w8 : IntKind.u64.wrap p8 = p8 := wrap_in _ (by omega) (by omega)
  have w10 : IntKind.u64.wrap p10 = p10 := wrap_in _ (by omega) (by omega)
  have key : ∀ i, i < 11 → lo i ≤ toR [u, p1, 1 + p2, 1 + p3, 1 + p4, 1 + p5, 1 + p6, p7, p8, 1 + p9, p10] i ∧ toR [u, p1, 1 + p2, 1 + p3, 1 + p4, 1 + p5, 1 + p6, p7, p8, 1 + p9, p10] i ≤ hi i := by
    intro i hi11
    match i, hi11 with
    | 0, _ => exact (show (1 : Int) ≤ u ∧ u ≤ 1048576 by omega)
    | 1, _ => exact (show (0 : Int) ≤ p1 ∧ p1 ≤ 1048576 by omega)
    | 2, _ => exact (show (1 : Int) ≤ 1 + p2 ∧ 1 + p2 ≤ 1000 by omega)
    | 3, _ => exact (show (1 : Int) ≤ 1 + p3 ∧ 1 + p3 ≤ 256 by omega)
    | 4, _ => exact (show (1 : Int) ≤ 1 + p4 ∧ 1 + p4 ≤ 16 by omega)
    | 5, _ => exact (show (1 : Int) ≤ 1 + p5 ∧ 1 + p5 ≤ 32 by omega)
    | 6, _ => exact (show (1 : Int) ≤ 1 + p6 ∧ 1 + p6 ≤ 1048576 by omega)
    | 7, _ => exact (show (0 : Int) ≤ IntKind.u64.wrap p7 ∧ IntKind.u64.wrap p7 ≤ 1000000000 by rw [w7]; omega)
    | 8, _ => exact (show (0 : Int) ≤ IntKind.u64.wrap p8 ∧ IntKind.u64.wrap p8 ≤ 1000 by rw [w8]; omega)
    | 9, _ => exact (show (1 : Int) ≤ 1 + p9 ∧ 1 + p9 ≤ 1048576 by omega)
    | 10, _ => exact (show (0 : Int) ≤ IntKind.u64.wrap p10 ∧ IntKind.u64.wrap p10 ≤ 1000000000 by rw [w10]; omega)
    | n + 11, h => omega
  have kd : Kinds (toR [u, p1, 1 + p2, 1 + p3, 1 + p4, 1 + p5, 1 + p6, p7, p8, 1 + p9, p10]) := fun i hi11 => by
    have h := key i hi11
    have hl := lohi i hi11
    exact ⟨fun _ => ⟨by omega, by omega⟩, fun _ => ⟨by omega, by omega⟩⟩
  refine ⟨kd, .inr (.inr ⟨fun i hi11 => ?_, (show p1 ≤ u by omega), rfl, rfl⟩)⟩
  have h := key i hi11
  have hl := lohi i hi11
  unfold okF
  have hw : wv (toR [u, p1, 1 + p2, 1 + p3, 1 + p4, 1 + p5, 1 + p6, p7, p8, 1 + p9, p10]) i = toR [u, p1, 1 + p2, 1 + p3, 1 + p4, 1 + p5, 1 + p6, p7, p8, 1 + p9, p10] i := by
    unfold wv
    split
    · rfl
    · exact wrap_in _ (by omega) (by omega)
  rw [hw]
  exact decide_eq_true h
end Pm
end Go.Proofs.YtpohcdfmkcfonaaGreatDoor
