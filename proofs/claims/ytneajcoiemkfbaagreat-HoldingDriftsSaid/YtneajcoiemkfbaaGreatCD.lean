/-
  Texts of this claim, put together: Sh1, Sh2, Sh3, Sh4, Sh5. What each one says, and under which conditions, stands ahead of it.
-/
import Derived.Deep.RegionHeld3
import Derived.Deep.Cut
import Derived.Deep.DeepCutAuto
import Derived.BigQuiet
import Derived.Deep.QuietTactic
import Derived.Test.YtneajcoiemkfbaaGreatTk
import Derived.Test.YtneajcoiemkfbaaGreatCC
import Derived.Test.YtneajcoiemkfbaaGreatCB

section
/-
  A list of conditions, each a function value that tells an error: share.first tells the first error, or OK; what unless, told and room make. No condition.
-/
namespace Go.Proofs.YtneajcoiemkfbaaGreat
open Go.RowKit Go.Shelf
set_option linter.unusedVariables false
namespace Sh

/-- The function value v, called in any later world, tells e and leaves what is there. -/
def Tells (w : World) (v : Value) (e : Int) : Prop :=
  ∃ (k : Nat) (fs cs : Array Value), v = .func (.func k) fs cs ∧ (∀ args w', (callFunc k args).run Tryz.prog w' = .ok (.enter k args) w') ∧ ∀ w', Bel w w' → Calls Tryz.prog k (fs ++ cs) w' fun r w'' => r = .returned (.int .i64 e) ∧ Bel w' w''
theorem Tells.bel {w w' : World} {v : Value} {e : Int} (h : Tells w v e) (hb : Bel w w') : Tells w' v e := by
  obtain ⟨k, fs, cs, h1, h2, h3⟩ := h
  exact ⟨k, fs, cs, h1, h2, fun w1 h1 => h3 w1 (hb.trans h1)⟩
theorem cell_bel {w w' : World} {b o : Nat} {v : Value} (h : w.cell? ⟨b, o, none⟩ = some v) (hb : Bel w w') : w'.cell? ⟨b, o, none⟩ = some v :=
  (Below.cell (p := ⟨b, o, none⟩) hb (World.block_lt_of_cell? w ⟨b, o, none⟩ h)).trans h

/-- The first error of a list. -/
def fE : List Int → Int
  | [] => 0
  | x :: l => if x = 0 then fE l else x
theorem fE_at {es : List Int} {k : Nat} (h : ∀ j, j < k → es.getD j 0 = 0) (hk : k < es.length) (hne : ¬ es.getD k 0 = 0) : fE es = es.getD k 0 := by
  induction es generalizing k with
  | nil => simp at hk
  | cons x l ih =>
    match k, h, hk, hne with
    | 0, h, hk, hne => unfold fE; rw [if_neg (by simpa using hne)]; simp
    | k + 1, h, hk, hne =>
      have h0 := h 0 (by omega)
      have h0 : x = 0 := by simpa using h0
      unfold fE
      rw [if_pos h0]
      have := ih (k := k) (fun j hj => by have := h (j + 1) (by omega); simpa using this) (by simpa using hk) (by simpa using hne)
      rw [this]; simp
theorem fE_end {es : List Int} (h : ∀ j, j < es.length → es.getD j 0 = 0) : fE es = 0 := by
  induction es with
  | nil => rfl
  | cons x l ih =>
    have h0 := h 0 (by simp)
    have h0 : x = 0 := by simpa using h0
    unfold fE
    rw [if_pos h0]
    exact ih fun j hj => by have := h (j + 1) (by simpa using hj); simpa using this

set_option maxHeartbeats 1000000 in
theorem first (b n c : Nat) (es : List Int) (w : World) (hl : es.length = n) (hn : n ≤ 100) (hc : ∀ i, i < n → ∃ v, w.cell? ⟨b, i, none⟩ = some v ∧ Tells w v (es.getD i 0)) :
    Calls Tryz.prog 190 #[.slice (some ⟨b, 0, none⟩) n c] w fun e w' => e = .returned (.int .i64 (fE es)) ∧ Bel w w' := by
  have HC := Lib.hid hc
  have HL := Lib.hid hl
  clear hc hl
  go_enter Tryz.func190, Tryz.ntmps190
  go_wp2_with fail
  go_loopw [2, 8] (fun r i wr => ∃ k : Nat, k ≤ n ∧ i = .int .i64 k ∧ r = .int .i64 0 ∧ (∀ j, j < k → es.getD j 0 = 0) ∧ Bel w wr) (fun _ i _ => n - (intOf i).toNat)
  case atStart => exact ⟨0, Nat.zero_le _, rfl, rfl, fun j hj => absurd hj (by omega), Bel.refl _⟩
  case round =>
    obtain ⟨k, hk, rfl, rfl, hz, hb⟩ := hrel
    have HZ := Lib.hid hz
    clear hz
    by_cases hlt : k < n
    · obtain ⟨v, hv, F, fs, cs, rfl, CF, HF⟩ := HC.out k hlt
      have HF := Lib.hid (HF wr hb)
      have hcell := cell_bel hv hb
      clear hv
      have hB := Lib.hid hb
      clear hb
      generalize hE : es.getD k 0 = E at *
      have HE := Lib.hid hE
      clear hE
      go_wp2_with fail
      refine (HF.out).mono ?_
      rintro e w' ⟨rfl, hb'⟩
      have hall := Lib.hid (hB.out.trans hb')
      clear hb'
      by_cases hE : E = 0
      · subst hE
        go_wp2_with fail
        go_roundw
        case rel => exact ⟨k + 1, by omega, by go_num, rfl, fun j hj => by
          by_cases e : j = k
          · rw [e]; exact HE.out
          · exact HZ.out j (by omega), hall.out⟩
        case measure => simp [intOf]; omega
      · have hE1 : (E != 0) = true := by simpa using hE
        go_wp2_with fail
        go_ret
        exact ⟨by rw [fE_at HZ.out (by rw [HL.out]; omega) (by rw [HE.out]; exact hE), HE.out]; rfl, hall.out⟩
    · obtain rfl : k = n := by omega
      go_wp2_with fail
      go_ret
      exact ⟨by rw [fE_end (by rw [HL.out]; exact HZ.out)]; rfl, hb⟩

/-- e where it is so, else 0. -/
def ife (b : Bool) (e : Int) : Int := if b then e else 0
theorem enter_a (args : Array Value) (w : World) : (callFunc 211 args).run Tryz.prog w = .ok (.enter 211 args) w := by go_simp
theorem enter_b (args : Array Value) (w : World) : (callFunc 232 args).run Tryz.prog w = .ok (.enter 232 args) w := by go_simp
theorem enter_c (args : Array Value) (w : World) : (callFunc 242 args).run Tryz.prog w = .ok (.enter 242 args) w := by go_simp
theorem enter_d (args : Array Value) (w : World) : (callFunc 244 args).run Tryz.prog w = .ok (.enter 244 args) w := by go_simp
theorem enter_e (args : Array Value) (w : World) : (callFunc 182 args).run Tryz.prog w = .ok (.enter 182 args) w := by go_simp
theorem new_cell (w : World) (v : Value) (t : TypeId) {n : Nat} (h : w.heap.size = n) : (w.alloc (.cells #[v] t)).cell? ⟨n, 0, none⟩ = some v := by subst h; simp

theorem unless1 (p q : Nat) (b : Bool) (e : Int) (w : World) (h1 : w.cell? ⟨p, 0, none⟩ = some (.bool b)) (h2 : w.cell? ⟨q, 0, none⟩ = some (.int .i64 e)) :
    Calls Tryz.prog 211 #[.pointer (some ⟨p, 0, none⟩), .pointer (some ⟨q, 0, none⟩)] w fun r w' => r = .returned (.int .i64 (ife b e)) ∧ Bel w w' := by
  cases b
  all_goals
    go_enter Tryz.func211, Tryz.ntmps211
    go_wp2
    go_ret
    exact ⟨rfl, Bel.refl _⟩
theorem unless_ (b : Bool) (e : Int) (w : World) :
    Calls Tryz.prog 191 #[.bool b, .int .i64 e] w fun r w' => ∃ p q : Nat, r = .returned (.func (.func 211) #[] #[.pointer (some ⟨p, 0, none⟩), .pointer (some ⟨q, 0, none⟩)]) ∧ Tells w' (.func (.func 211) #[] #[.pointer (some ⟨p, 0, none⟩), .pointer (some ⟨q, 0, none⟩)]) (ife b e) ∧ Bel w w' := by
  go_enter Tryz.func191, Tryz.ntmps191
  go_wp2
  go_ret
  refine ⟨_, _, rfl, ⟨_, _, _, rfl, enter_a, fun w' hb => ?_⟩, ((Bel.refl _).alloc _).alloc _⟩
  exact unless1 _ _ b e w' (cell_bel (cell_bel (new_cell w _ _ rfl) ((Bel.refl _).alloc _)) hb) (cell_bel (new_cell _ _ _ (by simp)) hb)

theorem told1 (p : Nat) (e : Int) (w : World) (h1 : w.cell? ⟨p, 0, none⟩ = some (.int .i64 e)) :
    Calls Tryz.prog 232 #[.pointer (some ⟨p, 0, none⟩)] w fun r w' => r = .returned (.int .i64 e) ∧ Bel w w' := by
  go_enter Tryz.func232, Tryz.ntmps232
  go_wp2
  go_ret
  exact ⟨rfl, Bel.refl _⟩
theorem told (e : Int) (w : World) :
    Calls Tryz.prog 219 #[.int .i64 e] w fun r w' => ∃ p : Nat, r = .returned (.func (.func 232) #[] #[.pointer (some ⟨p, 0, none⟩)]) ∧ Tells w' (.func (.func 232) #[] #[.pointer (some ⟨p, 0, none⟩)]) e ∧ Bel w w' := by
  go_enter Tryz.func219, Tryz.ntmps219
  go_wp2
  go_ret
  exact ⟨_, rfl, ⟨_, _, _, rfl, enter_b, fun w' hb => told1 _ e w' (cell_bel (new_cell w _ _ rfl) hb)⟩, (Bel.refl _).alloc _⟩

/-- What room tells: ErrOver where a sum is more than most. -/
def roomE (a n most : Int) : Int := if most < a + n then 12 else 0
open Fix
theorem room1c (p q s : Nat) (a n m : Int) (w : World) (a0 : 0 ≤ a) (a1 : a ≤ 18446744073709551615) (n0 : 0 ≤ n) (n1 : n ≤ 18446744073709551615) (m0 : 0 ≤ m) (m1 : m ≤ 18446744073709551615)
    (h1 : w.cell? ⟨p, 0, none⟩ = some (.int .u64 a)) (h2 : w.cell? ⟨q, 0, none⟩ = some (.int .u64 n)) (h3 : w.cell? ⟨s, 0, none⟩ = some (.int .u64 m)) :
    Calls Tryz.prog 242 #[.pointer (some ⟨p, 0, none⟩), .pointer (some ⟨q, 0, none⟩), .pointer (some ⟨s, 0, none⟩)] w fun r w' => r = .returned (.int .i64 (roomE a n m)) ∧ Bel w w' := by
  have AD := Lib.hid (fun w => add a n w a0 a1 n0 n1)
  rcases Int.lt_or_le 18446744073709551615 (a + n) with hg | hg
  · obtain ⟨e1, e2⟩ := amt_no hg
    have e3 : roomE a n m = 12 := if_pos (by omega)
    rw [e3]
    rw [e1, e2] at AD
    clear e1 e2 e3 hg
    go_enter Tryz.func242, Tryz.ntmps242
    go_wp2_with fail
    refine (AD.out _).mono ?_
    rintro e w' ⟨rfl, hb⟩
    have HB := Lib.hid hb
    clear hb
    go_wp2_with fail
    go_ret
    exact ⟨rfl, HB.out⟩
  · obtain ⟨e1, e2⟩ := amt_of hg
    rw [e1, e2] at AD
    clear e1 e2
    go_enter Tryz.func242, Tryz.ntmps242
    go_wp2_with fail
    refine (AD.out _).mono ?_
    rintro e w' ⟨rfl, hb⟩
    have c3 := cell_bel h3 hb
    have HB := Lib.hid hb
    clear hb
    by_cases hm : m < a + n
    · have e3 : roomE a n m = 12 := if_pos hm
      have E3 := Lib.hid e3
      clear e3
      go_wp2_with fail
      go_ret
      exact ⟨by rw [E3.out]; rfl, HB.out⟩
    · have e3 : roomE a n m = 0 := if_neg hm
      have E3 := Lib.hid e3
      clear e3
      go_wp2_with fail
      go_ret
      exact ⟨by rw [E3.out]; rfl, HB.out⟩
theorem roomc (a n m : Int) (w : World) (a0 : 0 ≤ a) (a1 : a ≤ 18446744073709551615) (n0 : 0 ≤ n) (n1 : n ≤ 18446744073709551615) (m0 : 0 ≤ m) (m1 : m ≤ 18446744073709551615) :
    Calls Tryz.prog 226 #[.int .u64 a, .int .u64 n, .int .u64 m] w fun r w' => ∃ p q s : Nat, r = .returned (.func (.func 242) #[] #[.pointer (some ⟨p, 0, none⟩), .pointer (some ⟨q, 0, none⟩), .pointer (some ⟨s, 0, none⟩)]) ∧ Tells w' (.func (.func 242) #[] #[.pointer (some ⟨p, 0, none⟩), .pointer (some ⟨q, 0, none⟩), .pointer (some ⟨s, 0, none⟩)]) (roomE a n m) ∧ Bel w w' := by
  go_enter Tryz.func226, Tryz.ntmps226
  go_wp2
  go_ret
  refine ⟨_, _, _, rfl, ⟨_, _, _, rfl, enter_c, fun w' hb => ?_⟩, (((Bel.refl _).alloc _).alloc _).alloc _⟩
  exact room1c _ _ _ a n m w' a0 a1 n0 n1 m0 m1 (cell_bel (cell_bel (cell_bel (new_cell w _ _ rfl) ((Bel.refl _).alloc _)) ((Bel.refl _).alloc _)) hb) (cell_bel (cell_bel (new_cell _ _ _ (by simp)) ((Bel.refl _).alloc _)) hb) (cell_bel (new_cell _ _ _ (by simp)) hb)
theorem room1d (p q s : Nat) (a n m : Int) (w : World) (a0 : 0 ≤ a) (a1 : a ≤ 18446744073709551615) (n0 : 0 ≤ n) (n1 : n ≤ 18446744073709551615) (m0 : 0 ≤ m) (m1 : m ≤ 18446744073709551615)
    (h1 : w.cell? ⟨p, 0, none⟩ = some (.int .u64 a)) (h2 : w.cell? ⟨q, 0, none⟩ = some (.int .u64 n)) (h3 : w.cell? ⟨s, 0, none⟩ = some (.int .u64 m)) :
    Calls Tryz.prog 244 #[.pointer (some ⟨p, 0, none⟩), .pointer (some ⟨q, 0, none⟩), .pointer (some ⟨s, 0, none⟩)] w fun r w' => r = .returned (.int .i64 (roomE a n m)) ∧ Bel w w' := by
  have AD := Lib.hid (fun w => add a n w a0 a1 n0 n1)
  rcases Int.lt_or_le 18446744073709551615 (a + n) with hg | hg
  · obtain ⟨e1, e2⟩ := amt_no hg
    have e3 : roomE a n m = 12 := if_pos (by omega)
    rw [e3]
    rw [e1, e2] at AD
    clear e1 e2 e3 hg
    go_enter Tryz.func244, Tryz.ntmps244
    go_wp2_with fail
    refine (AD.out _).mono ?_
    rintro e w' ⟨rfl, hb⟩
    have HB := Lib.hid hb
    clear hb
    go_wp2_with fail
    go_ret
    exact ⟨rfl, HB.out⟩
  · obtain ⟨e1, e2⟩ := amt_of hg
    rw [e1, e2] at AD
    clear e1 e2
    go_enter Tryz.func244, Tryz.ntmps244
    go_wp2_with fail
    refine (AD.out _).mono ?_
    rintro e w' ⟨rfl, hb⟩
    have c3 := cell_bel h3 hb
    have HB := Lib.hid hb
    clear hb
    by_cases hm : m < a + n
    · have e3 : roomE a n m = 12 := if_pos hm
      have E3 := Lib.hid e3
      clear e3
      go_wp2_with fail
      go_ret
      exact ⟨by rw [E3.out]; rfl, HB.out⟩
    · have e3 : roomE a n m = 0 := if_neg hm
      have E3 := Lib.hid e3
      clear e3
      go_wp2_with fail
      go_ret
      exact ⟨by rw [E3.out]; rfl, HB.out⟩
theorem roomd (a n m : Int) (w : World) (a0 : 0 ≤ a) (a1 : a ≤ 18446744073709551615) (n0 : 0 ≤ n) (n1 : n ≤ 18446744073709551615) (m0 : 0 ≤ m) (m1 : m ≤ 18446744073709551615) :
    Calls Tryz.prog 227 #[.int .u64 a, .int .u64 n, .int .u64 m] w fun r w' => ∃ p q s : Nat, r = .returned (.func (.func 244) #[] #[.pointer (some ⟨p, 0, none⟩), .pointer (some ⟨q, 0, none⟩), .pointer (some ⟨s, 0, none⟩)]) ∧ Tells w' (.func (.func 244) #[] #[.pointer (some ⟨p, 0, none⟩), .pointer (some ⟨q, 0, none⟩), .pointer (some ⟨s, 0, none⟩)]) (roomE a n m) ∧ Bel w w' := by
  go_enter Tryz.func227, Tryz.ntmps227
  go_wp2
  go_ret
  refine ⟨_, _, _, rfl, ⟨_, _, _, rfl, enter_d, fun w' hb => ?_⟩, (((Bel.refl _).alloc _).alloc _).alloc _⟩
  exact room1d _ _ _ a n m w' a0 a1 n0 n1 m0 m1 (cell_bel (cell_bel (cell_bel (new_cell w _ _ rfl) ((Bel.refl _).alloc _)) ((Bel.refl _).alloc _)) hb) (cell_bel (cell_bel (new_cell _ _ _ (by simp)) ((Bel.refl _).alloc _)) hb) (cell_bel (new_cell _ _ _ (by simp)) hb)
end Sh
end Go.Proofs.YtneajcoiemkfbaaGreat
end

section
/-
  What share's pool.check, rate and exchange answer, as plain functions of the numbers. Conditions: the amounts are words.
-/
namespace Go.Proofs.YtneajcoiemkfbaaGreat
open Go.RowKit Go.Shelf
set_option linter.unusedVariables false
namespace Sh
open Fix

/-- A pool, as a value. -/
abbrev pV (T S : Int) : Value := .agg #[.int .u64 T, .int .u64 S]
/-- A word. -/
def Wd (x : Int) : Prop := 0 ≤ x ∧ x ≤ 18446744073709551615
/-- The document's Check. -/
def chk (T S : Int) : Int := if S < T then 9 else if 4611686018427387904 < T then 12 else if T = 0 ∧ ¬ S = 0 then 11 else 0
theorem chk_of (T S : Int) (s0 : 0 ≤ S) (b : Bool) (hb : b = (decide (T = 0) && decide (0 < S))) : fE [ife (decide (S < T)) 9, ife (decide (4611686018427387904 < T)) 12, ife b 11] = chk T S := by
  unfold chk fE fE fE fE ife
  subst hb
  by_cases h1 : S < T
  · simp [h1]
  · by_cases h2 : 4611686018427387904 < T
    · simp [h1, h2]
    · by_cases h3 : T = 0
      · by_cases h4 : S = 0
        · simp [h3, h4]
        · have h5 : 0 < S := by omega
          subst h3
          simp [h4, h5, h1]
      · simp [h1, h2, h3]
theorem chk_ok {T S : Int} (h : chk T S = 0) : T ≤ S ∧ T ≤ 4611686018427387904 ∧ (T = 0 → S = 0) := by
  unfold chk at h
  split at h
  · cases h
  · split at h
    · cases h
    · split at h
      · cases h
      · refine ⟨by omega, by omega, fun h0 => ?_⟩
        by_cases h4 : S = 0
        · exact h4
        · rename_i h5; exact absurd ⟨h0, h4⟩ h5

theorem three {w : World} {b : Nat} {v0 v1 v2 : Value} {e0 e1 e2 : Int} (t : TypeId) (h0 : Tells w v0 e0) (h1 : Tells w v1 e1) (h2 : Tells w v2 e2) (hb : w.heap.size = b) :
    ∀ i, i < 3 → ∃ v, (w.alloc (.cells #[v0, v1, v2] t)).cell? ⟨b, i, none⟩ = some v ∧ Tells (w.alloc (.cells #[v0, v1, v2] t)) v ([e0, e1, e2].getD i 0) := by
  subst hb
  have B := (Bel.refl w).alloc (.cells #[v0, v1, v2] t)
  intro i hi
  match i, hi with
  | 0, _ => exact ⟨v0, by simp, h0.bel B⟩
  | 1, _ => exact ⟨v1, by simp, h1.bel B⟩
  | 2, _ => exact ⟨v2, by simp, h2.bel B⟩

set_option maxRecDepth 10000 in
set_option maxHeartbeats 2000000 in
theorem check (T S : Int) (w : World) (t0 : 0 ≤ T) (s0 : 0 ≤ S) :
    Calls Tryz.prog 182 #[pV T S] w fun r w' => r = .returned (.int .i64 (chk T S)) ∧ Bel w w' := by
  by_cases hT : T = 0
  · subst hT
    have HK := Lib.hid (chk_of 0 S s0 (decide (0 < S)) (by simp))
    go_enter Tryz.func182, Tryz.ntmps182
    go_upto_region 1 with fail
    obtain ⟨W, hW⟩ : ∃ W, w.alloc (.cells #[.int .u64 0, .int .u64 S] 181) = W := ⟨_, rfl⟩
    obtain ⟨p, hp⟩ : ∃ p, w.heap.size = p := ⟨_, rfl⟩
    have hc : Bel w W.drew ∧ W.drew.cell? ⟨p, 0, none⟩ = some (.int .u64 0) ∧ W.drew.cell? ⟨p, 1, none⟩ = some (.int .u64 S) := by
      subst hW hp
      exact ⟨((Bel.refl _).alloc _).drew, by simp, by simp⟩
    have KEEP := Lib.hid (show ∀ V V' : World, (Bel w V ∧ V.cell? ⟨p, 0, none⟩ = some (.int .u64 0) ∧ V.cell? ⟨p, 1, none⟩ = some (.int .u64 S)) → Bel V V' → (Bel w V' ∧ V'.cell? ⟨p, 0, none⟩ = some (.int .u64 0) ∧ V'.cell? ⟨p, 1, none⟩ = some (.int .u64 S)) from
      fun V V' h hb => ⟨h.1.trans hb, cell_bel h.2.1 hb, cell_bel h.2.2 hb⟩)
    rw [hp, hW]
    clear hW hp
    go_region_held3 (fun V => Bel w V ∧ V.cell? ⟨p, 0, none⟩ = some (.int .u64 0) ∧ V.cell? ⟨p, 1, none⟩ = some (.int .u64 S)) (first | assumption | exact KEEP.out _ _ (by assumption) (by assumption) | exact KEEP.out _ _ (by assumption) ((Bel.refl _).alloc _))
      (first | (go_at_call 191; refine (unless_ _ _ _).mono ?_; rintro e w1 ⟨q1, q2, rfl, ht, kb⟩) | (go_at_call 190; refine (first _ 3 _ [ife (decide (S < 0)) 9, ife (false) 12, ife (decide (0 < S)) 11] _ rfl (by decide) (three _ (Tells.bel (by assumption) (Bel.trans (by assumption) (by assumption))) (Tells.bel (by assumption) (by assumption)) (by assumption) rfl)).mono ?_; rintro e w1 ⟨rfl, kb⟩))
    rename_i hS
    rw [show fE [ife (decide (S < 0)) 9, ife (false) 12, ife (decide (0 < S)) 11] = chk 0 S from HK.out]
    go_wp2_with fail
    go_ret
    exact ⟨rfl, hS.1⟩
  · have hT1 : (T == 0) = false := by simpa using hT
    have HK := Lib.hid (chk_of T S s0 false (by simp [hT]))
    go_enter Tryz.func182, Tryz.ntmps182
    go_upto_region 1 with fail
    obtain ⟨W, hW⟩ : ∃ W, w.alloc (.cells #[.int .u64 T, .int .u64 S] 181) = W := ⟨_, rfl⟩
    obtain ⟨p, hp⟩ : ∃ p, w.heap.size = p := ⟨_, rfl⟩
    have hc : Bel w W.drew ∧ W.drew.cell? ⟨p, 0, none⟩ = some (.int .u64 T) ∧ W.drew.cell? ⟨p, 1, none⟩ = some (.int .u64 S) := by
      subst hW hp
      exact ⟨((Bel.refl _).alloc _).drew, by simp, by simp⟩
    have KEEP := Lib.hid (show ∀ V V' : World, (Bel w V ∧ V.cell? ⟨p, 0, none⟩ = some (.int .u64 T) ∧ V.cell? ⟨p, 1, none⟩ = some (.int .u64 S)) → Bel V V' → (Bel w V' ∧ V'.cell? ⟨p, 0, none⟩ = some (.int .u64 T) ∧ V'.cell? ⟨p, 1, none⟩ = some (.int .u64 S)) from
      fun V V' h hb => ⟨h.1.trans hb, cell_bel h.2.1 hb, cell_bel h.2.2 hb⟩)
    rw [hp, hW]
    clear hW hp
    refine wp_region_held_drew (S := fun V => Bel w V ∧ V.cell? ⟨p, 0, none⟩ = some (.int .u64 T) ∧ V.cell? ⟨p, 1, none⟩ = some (.int .u64 S)) (by kernel_rfl) hc (fun hS0 => ?_)
    obtain ⟨w6, hw6⟩ : ∃ w6, W.drew = w6 := ⟨_, rfl⟩
    rw [hw6] at hS0 ⊢
    clear hw6 hc
    refine ztk 0 { dst := some 3, op := .fieldAddr 181 (.tmp 1) 0, type := 0, pos := "pool.go:14", after := #[], guard := none } (.pointer (some ⟨p, 0, none⟩)) (Or.inl ⟨by rfl, by intro w hSw; clear hSw; go_simp⟩) hS0 ?_
    try simp only [Act.put, zq1, zq2, zq3]
    refine ztk 1 { dst := some 4, op := .load 32 (.tmp 3), type := 32, pos := "pool.go:14", after := #[{ on := 0, ground := .data }], guard := none } (.int .u64 T) (Or.inl ⟨by rfl, by intro w h; have hcell := (h.2.1); clear h; go_simp⟩) hS0 ?_
    try simp only [Act.put, zq1, zq2, zq3]
    refine ztk 2 { dst := some 5, op := .fieldAddr 181 (.tmp 1) 1, type := 0, pos := "pool.go:14", after := #[], guard := none } (.pointer (some ⟨p, 1, none⟩)) (Or.inl ⟨by rfl, by intro w hSw; clear hSw; go_simp⟩) hS0 ?_
    try simp only [Act.put, zq1, zq2, zq3]
    refine ztk 3 { dst := some 6, op := .load 32 (.tmp 5), type := 32, pos := "pool.go:14", after := #[{ on := 2, ground := .data }], guard := none } (.int .u64 S) (Or.inl ⟨by rfl, by intro w h; have hcell := (h.2.2); clear h; go_simp⟩) hS0 ?_
    try simp only [Act.put, zq1, zq2, zq3]
    refine ztk 4 { dst := some 7, op := .binOp .gtr 32 (.tmp 4) (.tmp 6) 32, type := 4, pos := "pool.go:14", after := #[{ on := 1, ground := .data }, { on := 3, ground := .data }], guard := none } (.bool (decide (S < T))) (Or.inl ⟨by rfl, by intro w hSw; clear hSw; go_simp⟩) hS0 ?_
    try simp only [Act.put, zq1, zq2, zq3]
    refine ztk 6 { dst := some 9, op := .fieldAddr 181 (.tmp 1) 0, type := 0, pos := "pool.go:14", after := #[], guard := none } (.pointer (some ⟨p, 0, none⟩)) (Or.inl ⟨by rfl, by intro w hSw; clear hSw; go_simp⟩) hS0 ?_
    try simp only [Act.put, zq1, zq2, zq3]
    refine ztk 7 { dst := some 10, op := .load 32 (.tmp 9), type := 32, pos := "pool.go:14", after := #[{ on := 6, ground := .data }], guard := none } (.int .u64 T) (Or.inl ⟨by rfl, by intro w h; have hcell := (h.2.1); clear h; go_simp⟩) hS0 ?_
    try simp only [Act.put, zq1, zq2, zq3]
    refine ztk 8 { dst := some 11, op := .binOp .gtr 32 (.tmp 10) (.const (Value.int IntKind.u64 4611686018427387904)) 32, type := 4, pos := "pool.go:14", after := #[{ on := 7, ground := .data }], guard := none } (.bool (decide (4611686018427387904 < T))) (Or.inl ⟨by rfl, by intro w hSw; clear hSw; go_simp⟩) hS0 ?_
    try simp only [Act.put, zq1, zq2, zq3]
    refine ztk 10 { dst := some 13, op := .fieldAddr 181 (.tmp 1) 0, type := 0, pos := "pool.go:14", after := #[], guard := none } (.pointer (some ⟨p, 0, none⟩)) (Or.inl ⟨by rfl, by intro w hSw; clear hSw; go_simp⟩) hS0 ?_
    try simp only [Act.put, zq1, zq2, zq3]
    refine ztk 11 { dst := some 14, op := .load 32 (.tmp 13), type := 32, pos := "pool.go:14", after := #[{ on := 10, ground := .data }], guard := none } (.int .u64 T) (Or.inl ⟨by rfl, by intro w h; have hcell := (h.2.1); clear h; go_simp⟩) hS0 ?_
    try simp only [Act.put, zq1, zq2, zq3]
    refine ztk 12 { dst := some 15, op := .binOp .eql 32 (.tmp 14) (.const (Value.int IntKind.u64 0)) 32, type := 4, pos := "pool.go:14", after := #[{ on := 11, ground := .data }], guard := none } (.bool false) (Or.inl ⟨by rfl, by intro w hSw; clear hSw; go_simp⟩) hS0 ?_
    try simp only [Act.put, zq1, zq2, zq3]
    refine wpAnyH_ready (rs := [5]) (by kernel_rfl) (by simp) ?_
    refine AllReadyH.cons (o := { dst := some 8, op := .call { callee := .value (.func 191), args := #[.tmp 7, .const (Value.int IntKind.i64 9)], argTypes := #[4, 30] }, type := 223, pos := "pool.go:15", after := #[{ on := 4, ground := .data }], guard := none }) rfl (fun K hK => ?_) AllReadyH.nil
    go_simp
    refine (unless_ _ _ _).mono ?_
    rintro e v1 ⟨a0, a1, rfl, ht0, kb0⟩
    go_wp2_with fail
    refine hK.out _ _ (KEEP.out _ _ hS0 kb0) (fun hS1 => ?_)
    clear hK K
    try simp only [Act.put, zq1, zq2, zq3]
    refine wpAnyH_ready (rs := [9]) (by kernel_rfl) (by simp) ?_
    refine AllReadyH.cons (o := { dst := some 12, op := .call { callee := .value (.func 191), args := #[.tmp 11, .const (Value.int IntKind.i64 12)], argTypes := #[4, 30] }, type := 223, pos := "pool.go:16", after := #[{ on := 8, ground := .data }, { on := 5, ground := .chain }], guard := none }) rfl (fun K hK => ?_) AllReadyH.nil
    go_simp
    refine (unless_ _ _ _).mono ?_
    rintro e v2 ⟨a2, a3, rfl, ht1, kb1⟩
    go_wp2_with fail
    refine hK.out _ _ (KEEP.out _ _ hS1 kb1) (fun hS2 => ?_)
    clear hK K
    try simp only [Act.put, zq1, zq2, zq3]
    refine ztk 13 { dst := some 16, op := .move (.tmp 15), type := 4, pos := "pool.go:14", after := #[{ on := 12, ground := .data }, { on := 9, ground := .chain }], guard := none } (.bool false) (Or.inl ⟨by rfl, by intro w hSw; clear hSw; go_simp⟩) hS2 ?_
    try simp only [Act.put, zq1, zq2, zq3]
    refine ztk 14 { dst := some 17, op := .fieldAddr 181 (.tmp 1) 1, type := 0, pos := "pool.go:14", after := #[{ on := 13, ground := .guard }], guard := some (13, true) } (undef) (Or.inr ⟨by rfl, rfl⟩) hS2 ?_
    try simp only [Act.put, zq1, zq2, zq3]
    refine ztk 15 { dst := some 18, op := .load 32 (.tmp 17), type := 32, pos := "pool.go:14", after := #[{ on := 14, ground := .data }, { on := 13, ground := .guard }], guard := some (13, true) } (undef) (Or.inr ⟨by rfl, rfl⟩) hS2 ?_
    try simp only [Act.put, zq1, zq2, zq3]
    refine ztk 16 { dst := some 19, op := .binOp .gtr 32 (.tmp 18) (.const (Value.int IntKind.u64 0)) 32, type := 4, pos := "pool.go:14", after := #[{ on := 15, ground := .data }, { on := 13, ground := .guard }], guard := some (13, true) } (undef) (Or.inr ⟨by rfl, rfl⟩) hS2 ?_
    try simp only [Act.put, zq1, zq2, zq3]
    refine ztk 17 { dst := some 20, op := .pick (.tmp 16) (.tmp 19) (.const (Value.bool false)), type := 4, pos := "pool.go:14", after := #[{ on := 13, ground := .data }, { on := 16, ground := .data }], guard := none } (.bool false) (Or.inl ⟨by rfl, by intro w hSw; clear hSw; go_simp⟩) hS2 ?_
    try simp only [Act.put, zq1, zq2, zq3]
    refine wpAnyH_ready (rs := [18]) (by kernel_rfl) (by simp) ?_
    refine AllReadyH.cons (o := { dst := some 21, op := .call { callee := .value (.func 191), args := #[.tmp 20, .const (Value.int IntKind.i64 11)], argTypes := #[4, 30] }, type := 223, pos := "pool.go:17", after := #[{ on := 17, ground := .data }, { on := 13, ground := .chain }], guard := none }) rfl (fun K hK => ?_) AllReadyH.nil
    go_simp
    refine (unless_ _ _ _).mono ?_
    rintro e v3 ⟨a4, a5, rfl, ht2, kb2⟩
    go_wp2_with fail
    refine hK.out _ _ (KEEP.out _ _ hS2 kb2) (fun hS3 => ?_)
    clear hK K
    try simp only [Act.put, zq1, zq2, zq3]
    refine wpAnyH_ready (rs := [19]) (by kernel_rfl) (by simp) ?_
    refine AllReadyH.cons (o := { dst := some 22, op := .buildSlice 245 3 #[(0, .tmp 8), (1, .tmp 12), (2, .tmp 21)], type := 245, pos := "pool.go:14", after := #[{ on := 5, ground := .data }, { on := 9, ground := .data }, { on := 18, ground := .data }], guard := none }) rfl (fun K hK => ?_) AllReadyH.nil
    go_simp
    refine hK.out _ _ (KEEP.out _ _ hS3 ((Bel.refl _).alloc _)) (fun hS4 => ?_)
    clear hK K
    try simp only [Act.put, zq1, zq2, zq3]
    refine wpAnyH_ready (rs := [20]) (by kernel_rfl) (by simp) ?_
    refine AllReadyH.cons (o := { dst := some 23, op := .call { callee := .value (.func 190), args := #[.tmp 22], argTypes := #[245] }, type := 30, pos := "pool.go:14", after := #[{ on := 19, ground := .data }, { on := 18, ground := .chain }], guard := none }) rfl (fun K hK => ?_) AllReadyH.nil
    go_simp
    refine (first _ 3 _ [ife (decide (S < T)) 9, ife (decide (4611686018427387904 < T)) 12, ife false 11] _ rfl (by decide) (three _ (ht0.bel (kb1.trans kb2)) (ht1.bel kb2) ht2 rfl)).mono ?_
    rintro e v5 ⟨rfl, kb3⟩
    go_wp2_with fail
    refine hK.out _ _ (KEEP.out _ _ hS4 kb3) (fun hS5 => ?_)
    clear hK K
    try simp only [Act.put, zq1, zq2, zq3]
    refine ztk 21 { dst := some 2, op := .assign (.tmp 23), type := 30, pos := "pool.go:14", after := #[{ on := 20, ground := .data }, { on := 20, ground := .chain }, { on := 0, ground := .phase }, { on := 1, ground := .phase }, { on := 2, ground := .phase }, { on := 3, ground := .phase }, { on := 4, ground := .phase }, { on := 5, ground := .phase }, { on := 6, ground := .phase }, { on := 7, ground := .phase }, { on := 8, ground := .phase }, { on := 9, ground := .phase }, { on := 10, ground := .phase }, { on := 11, ground := .phase }, { on := 12, ground := .phase }, { on := 13, ground := .phase }, { on := 14, ground := .phase }, { on := 15, ground := .phase }, { on := 16, ground := .phase }, { on := 17, ground := .phase }, { on := 18, ground := .phase }, { on := 19, ground := .phase }, { on := 20, ground := .phase }], guard := none } (.int .i64 (fE [ife (decide (S < T)) 9, ife (decide (4611686018427387904 < T)) 12, ife false 11])) (Or.inl ⟨by rfl, by intro w hSw; clear hSw; go_simp⟩) hS5 ?_
    try simp only [Act.put, zq1, zq2, zq3]
    refine wpAnyH_done (by kernel_rfl) ?_ _
    have hS := hS5
    rw [show fE [ife (decide (S < T)) 9, ife (decide (4611686018427387904 < T)) 12, ife (false) 11] = chk T S from HK.out]
    go_wp2_with fail
    go_ret
    exact ⟨rfl, hS.1⟩
end Sh
end Go.Proofs.YtneajcoiemkfbaaGreat
end

section
/-
  What share's value and price answer, as plain functions of the numbers. Conditions: the amounts are words.
-/
namespace Go.Proofs.YtneajcoiemkfbaaGreat
open Go.RowKit Go.Shelf
set_option linter.unusedVariables false
namespace Sh
open Fix

def rT (T : Int) : Int := if T = 0 then 1 else T
def rS (T S : Int) : Int := if T = 0 then 1 else S
theorem rate (T S : Int) (w : World) (hv : T = 0 → S = 0) :
    Calls Tryz.prog 192 #[pV T S] w fun r w' => r = .returned (.tuple #[.int .u64 (rT T), .int .u64 (rS T S)]) ∧ Bel w w' := by
  by_cases hT : T = 0
  · obtain rfl := hv hT
    subst hT
    go_enter Tryz.func192, Tryz.ntmps192
    go_wp2
    go_ret2
    exact ⟨rfl, (Bel.refl _).alloc _⟩
  · have hT1 : (T == 0) = false := by simpa using hT
    have E1 := Lib.hid (show rT T = T from if_neg hT)
    have E2 := Lib.hid (show rS T S = S from if_neg hT)
    go_enter Tryz.func192, Tryz.ntmps192
    go_upto_region 3 with fail
    go_quiet (fail)

    go_wp2
    go_ret2
    exact ⟨by rw [E1.out, E2.out]; rfl, ((Bel.refl _).alloc _).drewN _⟩
theorem rT0 {T : Int} (h : 0 ≤ T) (h1 : T ≤ 18446744073709551615) : 0 ≤ rT T ∧ rT T ≤ 18446744073709551615 := by unfold rT; split <;> omega
theorem rS0 {T S : Int} (h : 0 ≤ S) (h1 : S ≤ 18446744073709551615) : 0 ≤ rS T S ∧ rS T S ≤ 18446744073709551615 := by unfold rS; split <;> omega

theorem exA (n o h : Int) (w : World) (n0 : 0 ≤ n) (n1 : n ≤ 18446744073709551615) (o0 : 0 ≤ o) (o1 : o ≤ 18446744073709551615) (h0 : 0 ≤ h) (h1 : h ≤ 18446744073709551615) :
    Calls Tryz.prog 193 #[.int .u64 n, .int .u64 o, .int .u64 h] w fun r w' => r = .returned (.tuple #[.int .u64 (mdN n h o), .int .i64 (mdE n h o)]) ∧ Bel w w' := by
  have MD := Lib.hid (fun W => mulDiv n h o W n0 n1 h0 h1 o0 o1)
  go_enter Tryz.func193, Tryz.ntmps193
  go_wp2_with fail
  refine (MD.out _).mono ?_
  rintro e w' ⟨rfl, hb⟩
  have HB := Lib.hid hb
  clear hb
  go_wp2_with fail
  go_ret2
  exact ⟨rfl, HB.out⟩
theorem exB (n o h : Int) (w : World) (n0 : 0 ≤ n) (n1 : n ≤ 18446744073709551615) (o0 : 0 ≤ o) (o1 : o ≤ 18446744073709551615) (h0 : 0 ≤ h) (h1 : h ≤ 18446744073709551615) :
    Calls Tryz.prog 241 #[.int .u64 n, .int .u64 o, .int .u64 h] w fun r w' => r = .returned (.tuple #[.int .u64 (mdN n h o), .int .i64 (mdE n h o)]) ∧ Bel w w' := by
  have MD := Lib.hid (fun W => mulDiv n h o W n0 n1 h0 h1 o0 o1)
  go_enter Tryz.func241, Tryz.ntmps241
  go_wp2_with fail
  refine (MD.out _).mono ?_
  rintro e w' ⟨rfl, hb⟩
  have HB := Lib.hid hb
  clear hb
  go_wp2_with fail
  go_ret2
  exact ⟨rfl, HB.out⟩
/-- The document's Value. -/
def valE (T S x : Int) : Int := if ¬ chk T S = 0 then chk T S else if S < x then 13 else 0
def valN (T S x : Int) : Int := if valE T S x = 0 then x * T / S else 0
theorem valE_of (T S x : Int) : fE [chk T S, ife (decide (S < x)) 13] = valE T S x := by
  unfold valE fE fE fE ife
  by_cases h : chk T S = 0
  · simp only [h, not_true, if_true, if_false]
    by_cases h2 : S < x <;> simp [h2]
  · simp [h]
theorem valE_ok {T S x : Int} (h : valE T S x = 0) : chk T S = 0 ∧ x ≤ S := by
  unfold valE at h
  split at h
  · exact absurd h ‹_›
  · split at h
    · cases h
    · exact ⟨by simpa using ‹¬ ¬ chk T S = 0›, by omega⟩
/-- What the value is, and its bounds. -/
theorem val_of {T S x : Int} (t0 : 0 ≤ T) (x0 : 0 ≤ x) (h : valE T S x = 0) : mdN x (rT T) (rS T S) = valN T S x ∧ mdE x (rT T) (rS T S) = 0 ∧ 0 ≤ valN T S x ∧ valN T S x ≤ T := by
  obtain ⟨hc, hx⟩ := valE_ok h
  obtain ⟨h1, h2, h3⟩ := chk_ok hc
  have e : valN T S x = x * T / S := if_pos h
  rw [e]
  by_cases hT : T = 0
  · obtain rfl := h3 hT
    subst hT
    obtain rfl : x = 0 := by omega
    refine ⟨rfl, rfl, ?_, ?_⟩ <;> decide
  · have hS : 0 < S := by omega
    rw [show rT T = T from if_neg hT, show rS T S = S from if_neg hT]
    have m0 : 0 ≤ x * T := Int.mul_nonneg x0 t0
    have m1 : x * T ≤ S * T := Int.mul_le_mul_of_nonneg_right hx t0
    have d0 : 0 ≤ x * T / S := Int.ediv_nonneg m0 (by omega)
    have d1 : x * T / S ≤ T := Int.ediv_le_of_le_mul hS (by rw [Int.mul_comm T S]; exact m1)
    obtain ⟨a1, a2⟩ := amt_of (P := x * T / S) (by omega)
    unfold mdN mdE
    rw [if_neg (by omega), if_neg (by omega)]
    exact ⟨a1, a2, d0, d1⟩
theorem val_no {T S x : Int} (h : ¬ valE T S x = 0) : valN T S x = 0 := if_neg h

theorem two {w : World} {b : Nat} {v0 v1 : Value} {e0 e1 : Int} (t : TypeId) (h0 : Tells w v0 e0) (h1 : Tells w v1 e1) (hb : w.heap.size = b) :
    ∀ i, i < 2 → ∃ v, (w.alloc (.cells #[v0, v1] t)).cell? ⟨b, i, none⟩ = some v ∧ Tells (w.alloc (.cells #[v0, v1] t)) v ([e0, e1].getD i 0) := by
  subst hb
  have B := (Bel.refl w).alloc (.cells #[v0, v1] t)
  intro i hi
  match i, hi with
  | 0, _ => exact ⟨v0, by simp, h0.bel B⟩
  | 1, _ => exact ⟨v1, by simp, h1.bel B⟩
theorem tells_check (T S : Int) (w : World) (t0 : 0 ≤ T) (s0 : 0 ≤ S) : Tells w (.func (.func 182) #[pV T S] #[]) (chk T S) :=
  ⟨_, _, _, rfl, enter_e, fun w' _ => check T S w' t0 s0⟩

set_option maxRecDepth 10000 in
set_option maxHeartbeats 2000000 in
theorem value (T S x : Int) (w : World) (t0 : 0 ≤ T) (t1 : T ≤ 18446744073709551615) (s0 : 0 ≤ S) (s1 : S ≤ 18446744073709551615) (x0 : 0 ≤ x) (x1 : x ≤ 18446744073709551615) :
    Calls Tryz.prog 148 #[pV T S, .int .u64 x] w fun r w' => r = .returned (.tuple #[.int .u64 (valN T S x), .int .i64 (valE T S x)]) ∧ Bel w w' := by
  have TC := Lib.hid (fun W => tells_check T S W t0 s0)
  have EX := Lib.hid (fun W => exA x (rS T S) (rT T) W x0 x1 (rS0 s0 s1).1 (rS0 s0 s1).2 (rT0 t0 t1).1 (rT0 t0 t1).2)
  have RA := Lib.hid (fun (h : chk T S = 0) W => rate T S W (chk_ok h).2.2)
  have VO := Lib.hid (fun h => val_of (T := T) (S := S) (x := x) t0 x0 h)
  go_enter Tryz.func148, Tryz.ntmps148
  go_upto_region 1 with fail
  obtain ⟨W, hW⟩ : ∃ W, w.alloc (.cells #[.int .u64 T, .int .u64 S] 181) = W := ⟨_, rfl⟩
  obtain ⟨p, hp⟩ : ∃ p, w.heap.size = p := ⟨_, rfl⟩
  have hc : Bel w W.drew ∧ W.drew.cell? ⟨p, 0, none⟩ = some (.int .u64 T) ∧ W.drew.cell? ⟨p, 1, none⟩ = some (.int .u64 S) := by
    subst hW hp
    exact ⟨((Bel.refl _).alloc _).drew, by simp, by simp⟩
  have KEEP := Lib.hid (show ∀ V V' : World, (Bel w V ∧ V.cell? ⟨p, 0, none⟩ = some (.int .u64 T) ∧ V.cell? ⟨p, 1, none⟩ = some (.int .u64 S)) → Bel V V' → (Bel w V' ∧ V'.cell? ⟨p, 0, none⟩ = some (.int .u64 T) ∧ V'.cell? ⟨p, 1, none⟩ = some (.int .u64 S)) from
    fun V V' h hb => ⟨h.1.trans hb, cell_bel h.2.1 hb, cell_bel h.2.2 hb⟩)
  rw [hp, hW]
  clear hW hp
  refine wp_region_held_drew (S := fun V => Bel w V ∧ V.cell? ⟨p, 0, none⟩ = some (.int .u64 T) ∧ V.cell? ⟨p, 1, none⟩ = some (.int .u64 S)) (by kernel_rfl) hc (fun hS0 => ?_)
  obtain ⟨w6, hw6⟩ : ∃ w6, W.drew = w6 := ⟨_, rfl⟩
  rw [hw6] at hS0 ⊢
  clear hw6 hc
  refine ztk 0 { dst := some 9, op := .load 181 (.tmp 2), type := 181, pos := "pool.go:30", after := #[], guard := none } (pV T S) (Or.inl ⟨by rfl, by intro w h; obtain ⟨hcell, hcell2⟩ := (h.2); clear h; go_simp⟩) hS0 ?_
  try simp only [Act.put, zq1, zq2, zq3]
  refine ztk 1 { dst := some 10, op := Op.makeFunc (Fn.func 182) #[.tmp 9] #[], type := 191, pos := "pool.go:30", after := #[{ on := 0, ground := .data }], guard := none } (.func (.func 182) #[pV T S] #[]) (Or.inl ⟨by rfl, by intro w hSw; clear hSw; go_simp⟩) hS0 ?_
  try simp only [Act.put, zq1, zq2, zq3]
  refine ztk 2 { dst := some 11, op := .move (.tmp 1), type := 183, pos := "pool.go:30", after := #[], guard := none } (.int .u64 x) (Or.inl ⟨by rfl, by intro w hSw; clear hSw; go_simp⟩) hS0 ?_
  try simp only [Act.put, zq1, zq2, zq3]
  refine ztk 3 { dst := some 12, op := .fieldAddr 181 (.tmp 2) 1, type := 0, pos := "pool.go:30", after := #[], guard := none } (.pointer (some ⟨p, 1, none⟩)) (Or.inl ⟨by rfl, by intro w hSw; clear hSw; go_simp⟩) hS0 ?_
  try simp only [Act.put, zq1, zq2, zq3]
  refine ztk 4 { dst := some 13, op := .load 32 (.tmp 12), type := 32, pos := "pool.go:30", after := #[{ on := 3, ground := .data }], guard := none } (.int .u64 S) (Or.inl ⟨by rfl, by intro w h; have hcell := (h.2.2); clear h; go_simp⟩) hS0 ?_
  try simp only [Act.put, zq1, zq2, zq3]
  refine ztk 5 { dst := some 14, op := .binOp .gtr 183 (.tmp 11) (.tmp 13) 183, type := 4, pos := "pool.go:30", after := #[{ on := 2, ground := .data }, { on := 4, ground := .data }], guard := none } (.bool (decide (S < x))) (Or.inl ⟨by rfl, by intro w hSw; clear hSw; go_simp⟩) hS0 ?_
  try simp only [Act.put, zq1, zq2, zq3]
  refine wpAnyH_ready (rs := [6]) (by kernel_rfl) (by simp) ?_
  refine AllReadyH.cons (o := { dst := some 15, op := .call { callee := .value (.func 191), args := #[.tmp 14, .const (Value.int IntKind.i64 13)], argTypes := #[4, 30] }, type := 223, pos := "pool.go:30", after := #[{ on := 5, ground := .data }], guard := none }) rfl (fun K hK => ?_) AllReadyH.nil
  go_simp
  refine (unless_ _ _ _).mono ?_
  rintro e v1 ⟨a0, a1, rfl, ht0, kb0⟩
  go_wp2_with fail
  refine hK.out _ _ (KEEP.out _ _ hS0 kb0) (fun hS1 => ?_)
  clear hK K
  try simp only [Act.put, zq1, zq2, zq3]
  refine wpAnyH_ready (rs := [7]) (by kernel_rfl) (by simp) ?_
  refine AllReadyH.cons (o := { dst := some 16, op := .buildSlice 245 2 #[(0, .tmp 10), (1, .tmp 15)], type := 245, pos := "pool.go:30", after := #[{ on := 1, ground := .data }, { on := 6, ground := .data }], guard := none }) rfl (fun K hK => ?_) AllReadyH.nil
  go_simp
  refine hK.out _ _ (KEEP.out _ _ hS1 ((Bel.refl _).alloc _)) (fun hS2 => ?_)
  clear hK K
  try simp only [Act.put, zq1, zq2, zq3]
  refine wpAnyH_ready (rs := [8]) (by kernel_rfl) (by simp) ?_
  refine AllReadyH.cons (o := { dst := some 17, op := .call { callee := .value (.func 190), args := #[.tmp 16], argTypes := #[245] }, type := 30, pos := "pool.go:30", after := #[{ on := 7, ground := .data }, { on := 6, ground := .chain }], guard := none }) rfl (fun K hK => ?_) AllReadyH.nil
  go_simp
  refine (first _ 2 _ [chk T S, ife (decide (S < x)) 13] _ rfl (by decide) (two _ (TC.out _) ht0 rfl)).mono ?_
  rintro e v3 ⟨rfl, kb1⟩
  go_wp2_with fail
  refine hK.out _ _ (KEEP.out _ _ hS2 kb1) (fun hS3 => ?_)
  clear hK K
  try simp only [Act.put, zq1, zq2, zq3]
  refine ztk 9 { dst := some 6, op := .assign (.tmp 17), type := 30, pos := "pool.go:30", after := #[{ on := 8, ground := .data }, { on := 8, ground := .chain }, { on := 0, ground := .phase }, { on := 1, ground := .phase }, { on := 2, ground := .phase }, { on := 3, ground := .phase }, { on := 4, ground := .phase }, { on := 5, ground := .phase }, { on := 6, ground := .phase }, { on := 7, ground := .phase }, { on := 8, ground := .phase }], guard := none } (.int .i64 (fE [chk T S, ife (decide (S < x)) 13])) (Or.inl ⟨by rfl, by intro w hSw; clear hSw; go_simp⟩) hS3 ?_
  try simp only [Act.put, zq1, zq2, zq3]
  refine wpAnyH_done (by kernel_rfl) ?_ _
  rw [valE_of]
  have hS := hS3
  obtain ⟨V, hV⟩ : ∃ V, V = v3 := ⟨_, rfl⟩
  by_cases hE : valE T S x = 0
  · obtain ⟨m1, m2, m3, m4⟩ := VO.out hE
    have M1 := Lib.hid m1
    have M2 := Lib.hid m2
    clear m1 m2 m3 m4
    have hE1 := Lib.hid hE
    rw [hE]
    go_wp2_with fail
    refine (RA.out (valE_ok hE1.out).1 _).mono ?_
    rintro e w9 ⟨rfl, kb⟩
    have k9 := Lib.hid (hS.1.trans kb)
    clear kb
    go_wp2_with fail
    refine (EX.out _).mono ?_
    rintro e w10 ⟨rfl, kb⟩
    have k10 := Lib.hid (k9.out.trans kb)
    clear kb
    go_wp2_with fail
    go_ret2
    exact ⟨by rw [M1.out, M2.out, hE1.out]; rfl, k10.out⟩
  · have hE1 : (valE T S x != 0) = true := by simpa using hE
    have M1 := Lib.hid (val_no hE)
    go_wp2_with fail
    go_ret2
    exact ⟨by rw [M1.out]; rfl, hS.1⟩

/-- The document's Price. -/
def pri (T S a : Int) : Int := if S = 0 then a else a * S / T
def priE (T S a : Int) : Int := if ¬ chk T S = 0 then chk T S else if 18446744073709551615 < pri T S a then 12 else 0
def priN (T S a : Int) : Int := if priE T S a = 0 then pri T S a else 0
theorem pri0 {T S a : Int} (t0 : 0 ≤ T) (s0 : 0 ≤ S) (a0 : 0 ≤ a) : 0 ≤ pri T S a := by
  unfold pri
  split
  · exact a0
  · exact Int.ediv_nonneg (Int.mul_nonneg a0 s0) t0
theorem pri_of {T S a : Int} (t0 : 0 ≤ T) (s0 : 0 ≤ S) (a0 : 0 ≤ a) (a1 : a ≤ 18446744073709551615) (hc : chk T S = 0) : mdN a (rS T S) (rT T) = priN T S a ∧ mdE a (rS T S) (rT T) = priE T S a := by
  obtain ⟨h1, h2, h3⟩ := chk_ok hc
  have p0 := pri0 t0 s0 a0
  have e : mdN a (rS T S) (rT T) = amt (pri T S a) ∧ mdE a (rS T S) (rT T) = amtE (pri T S a) := by
    by_cases hT : T = 0
    · obtain rfl := h3 hT
      subst hT
      have e1 : pri 0 0 a = a := if_pos rfl
      rw [e1]
      unfold mdN mdE rS rT
      simp
    · unfold mdN mdE rS rT pri
      simp [hT, show ¬ S = 0 by omega]
  rw [e.1, e.2]
  unfold priN priE
  rcases Int.lt_or_le 18446744073709551615 (pri T S a) with h | h
  · obtain ⟨a1, a2⟩ := amt_no h
    rw [a1, a2]
    simp [hc, h]
  · obtain ⟨a1, a2⟩ := amt_of h
    rw [a1, a2]
    simp [hc, show ¬ 18446744073709551615 < pri T S a by omega]
theorem priN_le {T S a : Int} (t0 : 0 ≤ T) (s0 : 0 ≤ S) (a0 : 0 ≤ a) : 0 ≤ priN T S a ∧ priN T S a ≤ 18446744073709551615 := by
  have p0 := pri0 t0 s0 a0
  unfold priN
  split
  · rename_i h
    unfold priE at h
    split at h
    · exact absurd h ‹_›
    · split at h
      · cases h
      · omega
  · omega
theorem pri_no {T S a : Int} (h : ¬ chk T S = 0) : priE T S a = chk T S ∧ priN T S a = 0 := by
  have e : priE T S a = chk T S := if_pos h
  exact ⟨e, if_neg (by rw [e]; exact h)⟩

set_option maxRecDepth 10000 in
set_option maxHeartbeats 2000000 in
theorem price (T S a : Int) (w : World) (t0 : 0 ≤ T) (t1 : T ≤ 18446744073709551615) (s0 : 0 ≤ S) (s1 : S ≤ 18446744073709551615) (a0 : 0 ≤ a) (a1 : a ≤ 18446744073709551615) :
    Calls Tryz.prog 225 #[pV T S, .int .u64 a] w fun r w' => r = .returned (.tuple #[.int .u64 (priN T S a), .int .i64 (priE T S a)]) ∧ Bel w w' := by
  have CH := Lib.hid (fun W => check T S W t0 s0)
  have EX := Lib.hid (fun W => exB a (rT T) (rS T S) W a0 a1 (rT0 t0 t1).1 (rT0 t0 t1).2 (rS0 s0 s1).1 (rS0 s0 s1).2)
  have RA := Lib.hid (fun (h : chk T S = 0) W => rate T S W (chk_ok h).2.2)
  have PO := Lib.hid (fun h => pri_of (T := T) (S := S) (a := a) t0 s0 a0 a1 h)
  go_enter Tryz.func225, Tryz.ntmps225
  go_wp2_with fail
  refine (CH.out _).mono ?_
  rintro e w1 ⟨rfl, kb⟩
  obtain ⟨W, hW⟩ : ∃ W, w.alloc (.cells #[.int .u64 T, .int .u64 S] 181) = W := ⟨_, rfl⟩
  obtain ⟨p, hp⟩ : ∃ p, w.heap.size = p := ⟨_, rfl⟩
  have hc : Bel w w1 ∧ w1.cell? ⟨p, 0, none⟩ = some (.int .u64 T) ∧ w1.cell? ⟨p, 1, none⟩ = some (.int .u64 S) := by
    subst hp
    exact ⟨((Bel.refl _).alloc _).trans kb, cell_bel (by simp) kb, cell_bel (by simp) kb⟩
  obtain ⟨hc1, hc2, hc3⟩ := hc
  rw [hp]
  clear hp kb hW
  have k1 := Lib.hid hc1
  clear hc1
  by_cases hE : chk T S = 0
  · obtain ⟨m1, m2⟩ := PO.out hE
    have M1 := Lib.hid m1
    have M2 := Lib.hid m2
    clear m1 m2
    have hE1 := Lib.hid hE
    rw [hE]
    go_wp2_with fail
    refine (RA.out hE1.out _).mono ?_
    rintro e w9 ⟨rfl, kb⟩
    have k9 := Lib.hid (k1.out.trans kb)
    clear kb
    go_wp2_with fail
    refine (EX.out _).mono ?_
    rintro e w10 ⟨rfl, kb⟩
    have k10 := Lib.hid (k9.out.trans kb)
    clear kb
    go_wp2_with fail
    go_ret2
    exact ⟨by rw [M1.out, M2.out]; rfl, k10.out⟩
  · have hE1 : (chk T S != 0) = true := by simpa using hE
    have M1 := Lib.hid (pri_no (a := a) hE)
    go_wp2_with fail
    go_ret2
    exact ⟨by rw [M1.out.1, M1.out.2]; rfl, k1.out⟩
end Sh
end Go.Proofs.YtneajcoiemkfbaaGreat
end

section
/-
  What share's join, leave and cut answer, as plain functions of the numbers. Conditions: the amounts are words.
-/
namespace Go.Proofs.YtneajcoiemkfbaaGreat
open Go.RowKit Go.Shelf
set_option linter.unusedVariables false
namespace Sh
open Fix

theorem res_cii {fn : Func} {p q s : Tmp} {tp : TypeId} (h : fn.results = #[.cell p tp, .tmp q, .tmp s]) (tmps : Array Value) (w : World) (a : Addr) (X U V : Value)
    (hp : tmps.getD p undef = .pointer (some a)) (hq : tmps.getD q undef = U) (hs : tmps.getD s undef = V) (hX : (loadVar tp a).run Tryz.prog w = .ok X w) :
    (results fn tmps).run Tryz.prog w = .ok (.tuple #[X, U, V]) w := by
  have hp' : tmps[p]?.getD undef = .pointer (some a) := by simpa using hp
  have hq' : tmps[q]?.getD undef = U := by simpa using hq
  have hs' : tmps[s]?.getD undef = V := by simpa using hs
  simp [results, h, hp', hq', hs', asAddr, hX]

/-- The document's Join. -/
def joiE (T S a : Int) : Int := fE [chk T S, ife (a == 0) 14, priE T S a, roomE T a 4611686018427387904, roomE S (priN T S a) 18446744073709551615]
def joiT (T S a : Int) : Int := if joiE T S a = 0 then T + a else 0
def joiS (T S a : Int) : Int := if joiE T S a = 0 then S + priN T S a else 0
def joiN (T S a : Int) : Int := if joiE T S a = 0 then priN T S a else 0
theorem fE_cons {x : Int} {l : List Int} (h : fE (x :: l) = 0) : x = 0 ∧ fE l = 0 := by
  unfold fE at h
  split at h
  · exact ⟨‹_›, h⟩
  · exact absurd h ‹_›
theorem joi_ok {T S a : Int} (h : joiE T S a = 0) : chk T S = 0 ∧ ¬ a = 0 ∧ priE T S a = 0 ∧ T + a ≤ 4611686018427387904 ∧ S + priN T S a ≤ 18446744073709551615 := by
  obtain ⟨h1, h⟩ := fE_cons h
  obtain ⟨h2, h⟩ := fE_cons h
  obtain ⟨h3, h⟩ := fE_cons h
  obtain ⟨h4, h⟩ := fE_cons h
  obtain ⟨h5, h⟩ := fE_cons h
  refine ⟨h1, fun e => ?_, h3, ?_, ?_⟩
  · subst e; cases h2
  · unfold roomE at h4
    split at h4
    · cases h4
    · omega
  · unfold roomE at h5
    split at h5
    · cases h5
    · omega

theorem five {w : World} {b : Nat} {v0 v1 v2 v3 v4 : Value} {e0 e1 e2 e3 e4 : Int} (t : TypeId) (h0 : Tells w v0 e0) (h1 : Tells w v1 e1) (h2 : Tells w v2 e2) (h3 : Tells w v3 e3) (h4 : Tells w v4 e4) (hb : w.heap.size = b) :
    ∀ i, i < 5 → ∃ v, (w.alloc (.cells #[v0, v1, v2, v3, v4] t)).cell? ⟨b, i, none⟩ = some v ∧ Tells (w.alloc (.cells #[v0, v1, v2, v3, v4] t)) v ([e0, e1, e2, e3, e4].getD i 0) := by
  subst hb
  have B := (Bel.refl w).alloc (.cells #[v0, v1, v2, v3, v4] t)
  intro i hi
  match i, hi with
  | 0, _ => exact ⟨v0, by simp, h0.bel B⟩
  | 1, _ => exact ⟨v1, by simp, h1.bel B⟩
  | 2, _ => exact ⟨v2, by simp, h2.bel B⟩
  | 3, _ => exact ⟨v3, by simp, h3.bel B⟩
  | 4, _ => exact ⟨v4, by simp, h4.bel B⟩

/-- The world of an operation: its pool in the block p, its result in the block q. -/
def In (w W : World) (p q : Nat) (T S : Int) : Prop :=
  Bel w W ∧ W.cell? ⟨p, 0, none⟩ = some (.int .u64 T) ∧ W.cell? ⟨p, 1, none⟩ = some (.int .u64 S) ∧ Kk.Blk W q #[.int .u64 0, .int .u64 0] 181 ∧ w.heap.size ≤ p ∧ p < q
theorem In.up {w W W' : World} {p q : Nat} {T S : Int} (h : In w W p q T S) (hb : Bel W W') : In w W' p q T S :=
  ⟨h.1.trans hb, cell_bel h.2.1 hb, cell_bel h.2.2.1 hb, h.2.2.2.1.bel hb, h.2.2.2.2⟩
theorem In.start (w : World) (T S : Int) : In w ((w.alloc (.cells #[.int .u64 T, .int .u64 S] 181)).alloc (.cells #[.int .u64 0, .int .u64 0] 181)) w.heap.size (w.heap.size + 1) T S :=
  ⟨((Bel.refl _).alloc _).alloc _, by simp [World.cell?_alloc_old], by simp [World.cell?_alloc_old], by
    have := Kk.Blk.new (w.alloc (.cells #[.int .u64 T, .int .u64 S] 181)) #[.int .u64 0, .int .u64 0] 181
    simpa using this, Nat.le_refl _, by omega⟩
/-- What is loaded where a result has been stored. -/
theorem In.load {w W : World} {p q : Nat} {T S : Int} (h : In w W p q T S) (A B : Int) : (loadVar 181 ⟨q, 0, none⟩).run Tryz.prog ((W.setCell ⟨q, 0, none⟩ (.int .u64 A)).setCell ⟨q, 1, none⟩ (.int .u64 B)) = .ok (pV A B) ((W.setCell ⟨q, 0, none⟩ (.int .u64 A)).setCell ⟨q, 1, none⟩ (.int .u64 B)) :=
  Pm.load_b (C := [.int .u64 A, .int .u64 B]) ((h.2.2.2.1.set 0 _).set 1 _) Tryz.underlying181 rfl (by kernel_rfl)
theorem In.end_ {w W : World} {p q : Nat} {T S : Int} (h : In w W p q T S) (u v : Value) : Bel w ((W.setCell ⟨q, 0, none⟩ u).setCell ⟨q, 1, none⟩ v) :=
  (h.1.set (by have := h.2.2.2.2; show w.heap.size ≤ q; omega) _).set (by have := h.2.2.2.2; show w.heap.size ≤ q; omega) _

set_option maxRecDepth 10000 in
set_option maxHeartbeats 2000000 in
theorem join (T S a : Int) (w : World) (t0 : 0 ≤ T) (t1 : T ≤ 18446744073709551615) (s0 : 0 ≤ S) (s1 : S ≤ 18446744073709551615) (a0 : 0 ≤ a) (a1 : a ≤ 18446744073709551615) :
    Calls Tryz.prog 210 #[pV T S, .int .u64 a] w fun r w' => r = .returned (.tuple #[pV (joiT T S a) (joiS T S a), .int .u64 (joiN T S a), .int .i64 (joiE T S a)]) ∧ Bel w w' := by
  have TC := Lib.hid (fun W => tells_check T S W t0 s0)
  have PR := Lib.hid (fun W => price T S a W t0 t1 s0 s1 a0 a1)
  obtain ⟨P, hP⟩ : ∃ P, priN T S a = P := ⟨_, rfl⟩
  obtain ⟨F, hF⟩ : ∃ F, priE T S a = F := ⟨_, rfl⟩
  have hP0 := priN_le t0 s0 a0 (a := a) (T := T) (S := S)
  rw [hP] at hP0
  have RC := Lib.hid (fun W => roomc T a 4611686018427387904 W t0 t1 a0 a1 (by decide) (by decide))
  have RD := Lib.hid (fun W => roomd S P 18446744073709551615 W s0 s1 hP0.1 hP0.2 (by decide) (by decide))
  rw [hP, hF] at PR
  have HP := Lib.hid hP
  have HF := Lib.hid hF
  have B0 := Lib.hid hP0
  clear hP hF hP0
  have JO := Lib.hid (fun h => joi_ok (T := T) (S := S) (a := a) h)
  have I0 := Lib.hid (In.start w T S)
  go_enter Tryz.func210, Tryz.ntmps210
  go_wp2_with fail
  obtain ⟨W, hW⟩ : ∃ W, (w.alloc (.cells #[.int .u64 T, .int .u64 S] 181)).alloc (.cells #[.int .u64 0, .int .u64 0] 181) = W := ⟨_, rfl⟩
  obtain ⟨p, hp⟩ : ∃ p, w.heap.size = p := ⟨_, rfl⟩
  obtain ⟨q, hq⟩ : ∃ q, p + 1 = q := ⟨_, rfl⟩
  rw [hW, hp, hq] at I0
  rw [hW, hp, hq]
  clear hW hp hq
  refine (PR.out _).mono ?_
  rintro e w1 ⟨rfl, kb⟩
  have I1 := I0.out.up kb
  clear kb I0
  go_upto_region 2 with fail
  refine wp_region_held_drew (S := fun V => In w V p q T S) (by kernel_rfl) (I1.up (Bel.refl _).drew) (fun hS0 => ?_)
  obtain ⟨w6, hw6⟩ : ∃ w6, w1.drew = w6 := ⟨_, rfl⟩
  rw [hw6] at hS0 ⊢
  clear hw6 I1
  refine ztk 0 { dst := some 16, op := .load 181 (.tmp 2), type := 181, pos := "pool.go:47", after := #[], guard := none } (pV T S) (Or.inl ⟨by rfl, by intro w h; obtain ⟨hcell, hcell2⟩ := ((show w.cell? ⟨p, 0, none⟩ = some (.int .u64 T) ∧ w.cell? ⟨p, 1, none⟩ = some (.int .u64 S) from ⟨h.2.1, h.2.2.1⟩)); clear h; go_simp⟩) hS0 ?_
  try simp only [Act.put, zq1, zq2, zq3]
  refine ztk 1 { dst := some 17, op := Op.makeFunc (Fn.func 182) #[.tmp 16] #[], type := 191, pos := "pool.go:47", after := #[{ on := 0, ground := .data }], guard := none } (.func (.func 182) #[pV T S] #[]) (Or.inl ⟨by rfl, by intro w hSw; clear hSw; go_simp⟩) hS0 ?_
  try simp only [Act.put, zq1, zq2, zq3]
  refine ztk 2 { dst := some 18, op := .move (.tmp 1), type := 179, pos := "pool.go:47", after := #[], guard := none } (.int .u64 a) (Or.inl ⟨by rfl, by intro w hSw; clear hSw; go_simp⟩) hS0 ?_
  try simp only [Act.put, zq1, zq2, zq3]
  refine ztk 3 { dst := some 19, op := .binOp .eql 179 (.tmp 18) (.const (Value.int IntKind.u64 0)) 179, type := 4, pos := "pool.go:47", after := #[{ on := 2, ground := .data }], guard := none } (.bool (a == 0)) (Or.inl ⟨by rfl, by intro w hSw; clear hSw; go_simp⟩) hS0 ?_
  try simp only [Act.put, zq1, zq2, zq3]
  refine ztk 5 { dst := some 21, op := .move (.tmp 8), type := 30, pos := "pool.go:47", after := #[], guard := none } (.int .i64 F) (Or.inl ⟨by rfl, by intro w hSw; clear hSw; go_simp⟩) hS0 ?_
  try simp only [Act.put, zq1, zq2, zq3]
  refine ztk 7 { dst := some 23, op := .fieldAddr 181 (.tmp 2) 0, type := 0, pos := "pool.go:47", after := #[], guard := none } (.pointer (some ⟨p, 0, none⟩)) (Or.inl ⟨by rfl, by intro w hSw; clear hSw; go_simp⟩) hS0 ?_
  try simp only [Act.put, zq1, zq2, zq3]
  refine ztk 8 { dst := some 24, op := .load 32 (.tmp 23), type := 32, pos := "pool.go:47", after := #[{ on := 7, ground := .data }], guard := none } (.int .u64 T) (Or.inl ⟨by rfl, by intro w h; have hcell := (h.2.1); clear h; go_simp⟩) hS0 ?_
  try simp only [Act.put, zq1, zq2, zq3]
  refine ztk 9 { dst := some 25, op := .move (.tmp 1), type := 179, pos := "pool.go:47", after := #[], guard := none } (.int .u64 a) (Or.inl ⟨by rfl, by intro w hSw; clear hSw; go_simp⟩) hS0 ?_
  try simp only [Act.put, zq1, zq2, zq3]
  refine ztk 11 { dst := some 27, op := .fieldAddr 181 (.tmp 2) 1, type := 0, pos := "pool.go:47", after := #[], guard := none } (.pointer (some ⟨p, 1, none⟩)) (Or.inl ⟨by rfl, by intro w hSw; clear hSw; go_simp⟩) hS0 ?_
  try simp only [Act.put, zq1, zq2, zq3]
  refine ztk 12 { dst := some 28, op := .load 32 (.tmp 27), type := 32, pos := "pool.go:47", after := #[{ on := 11, ground := .data }], guard := none } (.int .u64 S) (Or.inl ⟨by rfl, by intro w h; have hcell := (h.2.2.1); clear h; go_simp⟩) hS0 ?_
  try simp only [Act.put, zq1, zq2, zq3]
  refine ztk 13 { dst := some 29, op := .move (.tmp 7), type := 183, pos := "pool.go:47", after := #[], guard := none } (.int .u64 P) (Or.inl ⟨by rfl, by intro w hSw; clear hSw; go_simp⟩) hS0 ?_
  try simp only [Act.put, zq1, zq2, zq3]
  refine wpAnyH_ready (rs := [4]) (by kernel_rfl) (by simp) ?_
  refine AllReadyH.cons (o := { dst := some 20, op := .call { callee := .value (.func 191), args := #[.tmp 19, .const (Value.int IntKind.i64 14)], argTypes := #[4, 30] }, type := 223, pos := "pool.go:49", after := #[{ on := 3, ground := .data }], guard := none }) rfl (fun K hK => ?_) AllReadyH.nil
  go_simp
  refine (unless_ _ _ _).mono ?_
  rintro e v1 ⟨a0, b0, rfl, ht0, kb0⟩
  go_wp2_with fail
  refine hK.out _ _ (hS0.up kb0) (fun hS1 => ?_)
  clear hK K
  try simp only [Act.put, zq1, zq2, zq3]
  refine wpAnyH_ready (rs := [6]) (by kernel_rfl) (by simp) ?_
  refine AllReadyH.cons (o := { dst := some 22, op := .call { callee := .value (.func 219), args := #[.tmp 21], argTypes := #[30] }, type := 223, pos := "pool.go:50", after := #[{ on := 5, ground := .data }, { on := 4, ground := .chain }], guard := none }) rfl (fun K hK => ?_) AllReadyH.nil
  go_simp
  refine (told _ _).mono ?_
  rintro e v2 ⟨a1, rfl, ht1, kb1⟩
  go_wp2_with fail
  refine hK.out _ _ (hS1.up kb1) (fun hS2 => ?_)
  clear hK K
  try simp only [Act.put, zq1, zq2, zq3]
  refine wpAnyH_ready (rs := [10]) (by kernel_rfl) (by simp) ?_
  refine AllReadyH.cons (o := { dst := some 26, op := .call { callee := .value (.func 226), args := #[.tmp 24, .tmp 25, .const (Value.int IntKind.u64 4611686018427387904)], argTypes := #[179, 179, 179] }, type := 223, pos := "pool.go:51", after := #[{ on := 8, ground := .data }, { on := 9, ground := .data }, { on := 6, ground := .chain }], guard := none }) rfl (fun K hK => ?_) AllReadyH.nil
  go_simp
  refine (RC.out _).mono ?_
  rintro e v3 ⟨a2, b2, c2, rfl, ht2, kb2⟩
  go_wp2_with fail
  refine hK.out _ _ (hS2.up kb2) (fun hS3 => ?_)
  clear hK K
  try simp only [Act.put, zq1, zq2, zq3]
  refine wpAnyH_ready (rs := [14]) (by kernel_rfl) (by simp) ?_
  refine AllReadyH.cons (o := { dst := some 30, op := .call { callee := .value (.func 227), args := #[.tmp 28, .tmp 29, .const (Value.int IntKind.u64 18446744073709551615)], argTypes := #[183, 183, 183] }, type := 223, pos := "pool.go:52", after := #[{ on := 12, ground := .data }, { on := 13, ground := .data }, { on := 10, ground := .chain }], guard := none }) rfl (fun K hK => ?_) AllReadyH.nil
  go_simp
  refine (RD.out _).mono ?_
  rintro e v4 ⟨a3, b3, c3, rfl, ht3, kb3⟩
  go_wp2_with fail
  refine hK.out _ _ (hS3.up kb3) (fun hS4 => ?_)
  clear hK K
  try simp only [Act.put, zq1, zq2, zq3]
  refine wpAnyH_ready (rs := [15]) (by kernel_rfl) (by simp) ?_
  refine AllReadyH.cons (o := { dst := some 31, op := .buildSlice 245 5 #[(0, .tmp 17), (1, .tmp 20), (2, .tmp 22), (3, .tmp 26), (4, .tmp 30)], type := 245, pos := "pool.go:47", after := #[{ on := 1, ground := .data }, { on := 4, ground := .data }, { on := 6, ground := .data }, { on := 10, ground := .data }, { on := 14, ground := .data }], guard := none }) rfl (fun K hK => ?_) AllReadyH.nil
  go_simp
  refine hK.out _ _ (hS4.up ((Bel.refl _).alloc _)) (fun hS5 => ?_)
  clear hK K
  try simp only [Act.put, zq1, zq2, zq3]
  refine wpAnyH_ready (rs := [16]) (by kernel_rfl) (by simp) ?_
  refine AllReadyH.cons (o := { dst := some 32, op := .call { callee := .value (.func 190), args := #[.tmp 31], argTypes := #[245] }, type := 30, pos := "pool.go:47", after := #[{ on := 15, ground := .data }, { on := 14, ground := .chain }], guard := none }) rfl (fun K hK => ?_) AllReadyH.nil
  go_simp
  refine (first _ 5 _ [chk T S, ife (a == 0) 14, F, roomE T a 4611686018427387904, roomE S P 18446744073709551615] _ rfl (by decide) (five _ (TC.out _) (ht0.bel (kb1.trans (kb2.trans kb3))) (ht1.bel (kb2.trans kb3)) (ht2.bel kb3) ht3 rfl)).mono ?_
  rintro e v6 ⟨rfl, kb4⟩
  go_wp2_with fail
  refine hK.out _ _ (hS5.up kb4) (fun hS6 => ?_)
  clear hK K
  try simp only [Act.put, zq1, zq2, zq3]
  refine ztk 17 { dst := some 9, op := .assign (.tmp 32), type := 30, pos := "pool.go:47", after := #[{ on := 16, ground := .data }, { on := 16, ground := .chain }, { on := 0, ground := .phase }, { on := 1, ground := .phase }, { on := 2, ground := .phase }, { on := 3, ground := .phase }, { on := 4, ground := .phase }, { on := 5, ground := .phase }, { on := 6, ground := .phase }, { on := 7, ground := .phase }, { on := 8, ground := .phase }, { on := 9, ground := .phase }, { on := 10, ground := .phase }, { on := 11, ground := .phase }, { on := 12, ground := .phase }, { on := 13, ground := .phase }, { on := 14, ground := .phase }, { on := 15, ground := .phase }, { on := 16, ground := .phase }], guard := none } (.int .i64 (fE [chk T S, ife (a == 0) 14, F, roomE T a 4611686018427387904, roomE S P 18446744073709551615])) (Or.inl ⟨by rfl, by intro w hSw; clear hSw; go_simp⟩) hS6 ?_
  try simp only [Act.put, zq1, zq2, zq3]
  refine wpAnyH_done (by kernel_rfl) ?_ _
  obtain ⟨E, hE⟩ : ∃ E, fE [chk T S, ife (a == 0) 14, F, roomE T a 4611686018427387904, roomE S P 18446744073709551615] = E := ⟨_, rfl⟩
  have hE' : joiE T S a = E := by rw [← hE, ← HP.out, ← HF.out]; rfl
  rw [hE]
  have I6 := Lib.hid hS6
  obtain ⟨c0, c1⟩ : v6.cell? ⟨p, 0, none⟩ = some (.int .u64 T) ∧ v6.cell? ⟨p, 1, none⟩ = some (.int .u64 S) := ⟨hS6.2.1, hS6.2.2.1⟩
  obtain ⟨d0, d1, d2, d3⟩ : v6.cell? ⟨q, 0, none⟩ = some (.int .u64 0) ∧ v6.cell? ⟨q, 1, none⟩ = some (.int .u64 0) ∧ v6.frozen? ⟨q, 0, none⟩ = false ∧ v6.frozen? ⟨q, 1, none⟩ = false := ⟨hS6.2.2.2.1.cell 0 rfl, hS6.2.2.2.1.cell 1 rfl, hS6.2.2.2.1.frozen 0, hS6.2.2.2.1.frozen 1⟩
  clear hE hS0 hS1 hS2 hS3 hS4 hS5 hS6
  have EO := Lib.hid hE'
  by_cases hz : E = 0
  · subst hz
    obtain ⟨_, _, _, j1, j2⟩ := JO.out hE'
    rw [HP.out] at j2
    obtain ⟨p0, p1⟩ := B0.out
    have e1 : IntKind.u64.wrap (T + a) = T + a := by rw [IntKind.wrap_u64]; omega
    have e2 : IntKind.u64.wrap (S + P) = S + P := by rw [IntKind.wrap_u64]; omega
    have q1 := Lib.hid (show joiT T S a = T + a from if_pos hE')
    have q2 := Lib.hid (show joiS T S a = S + P from by rw [← HP.out]; exact if_pos hE')
    have q3 := Lib.hid (show joiN T S a = P from by rw [← HP.out]; exact if_pos hE')
    clear hE' j1 j2
    go_wp2_with fail
    refine bodyPost_ret (v := .tuple #[pV (T + a) (S + P), .int .u64 P, .int .i64 0]) (res_cii rfl _ _ ⟨q, 0, none⟩ _ _ _ rfl rfl rfl (I6.out.load _ _)) rfl ⟨by rw [q1.out, q2.out, q3.out, EO.out], I6.out.end_ _ _⟩
  · have hz1 : (E != 0) = true := by simpa using hz
    have hz2 : ¬ joiE T S a = 0 := by rw [hE']; exact hz
    have q1 := Lib.hid (show joiT T S a = 0 from if_neg hz2)
    have q2 := Lib.hid (show joiS T S a = 0 from if_neg hz2)
    have q3 := Lib.hid (show joiN T S a = 0 from if_neg hz2)
    clear hE' hz2
    go_wp2_with fail
    refine bodyPost_ret (v := .tuple #[pV 0 0, .int .u64 0, .int .i64 E]) (res_cii rfl _ _ ⟨q, 0, none⟩ _ _ _ rfl rfl rfl (I6.out.load _ _)) rfl ⟨by rw [q1.out, q2.out, q3.out, EO.out], I6.out.end_ _ _⟩

/-- The document's Leave. -/
def leaE (T S x : Int) : Int := fE [valE T S x, ife (valN T S x == 0) 14]
def leaT (T S x : Int) : Int := if leaE T S x = 0 then T - valN T S x else 0
def leaS (T S x : Int) : Int := if leaE T S x = 0 then S - x else 0
def leaN (T S x : Int) : Int := if leaE T S x = 0 then valN T S x else 0
theorem lea_ok {T S x : Int} (t0 : 0 ≤ T) (x0 : 0 ≤ x) (h : leaE T S x = 0) : valE T S x = 0 ∧ chk T S = 0 ∧ x ≤ S ∧ 0 < valN T S x ∧ valN T S x ≤ T := by
  obtain ⟨h1, h⟩ := fE_cons h
  obtain ⟨h2, h⟩ := fE_cons h
  obtain ⟨_, _, v0, v1⟩ := val_of t0 x0 h1
  obtain ⟨hc, hx⟩ := valE_ok h1
  refine ⟨h1, hc, hx, ?_, v1⟩
  by_cases e : valN T S x = 0
  · rw [e] at h2
    cases h2
  · omega

set_option maxRecDepth 10000 in
set_option maxHeartbeats 2000000 in
theorem leave (T S x : Int) (w : World) (t0 : 0 ≤ T) (t1 : T ≤ 18446744073709551615) (s0 : 0 ≤ S) (s1 : S ≤ 18446744073709551615) (x0 : 0 ≤ x) (x1 : x ≤ 18446744073709551615) :
    Calls Tryz.prog 206 #[pV T S, .int .u64 x] w fun r w' => r = .returned (.tuple #[pV (leaT T S x) (leaS T S x), .int .u64 (leaN T S x), .int .i64 (leaE T S x)]) ∧ Bel w w' := by
  have PR := Lib.hid (fun W => value T S x W t0 t1 s0 s1 x0 x1)
  have LO := Lib.hid (fun h => lea_ok (T := T) (S := S) (x := x) t0 x0 h)
  obtain ⟨P, hP⟩ : ∃ P, valN T S x = P := ⟨_, rfl⟩
  obtain ⟨F, hF⟩ : ∃ F, valE T S x = F := ⟨_, rfl⟩
  rw [hP, hF] at PR
  have HP := Lib.hid hP
  have HF := Lib.hid hF
  clear hP hF
  have I0 := Lib.hid (In.start w T S)
  go_enter Tryz.func206, Tryz.ntmps206
  go_wp2_with fail
  obtain ⟨W, hW⟩ : ∃ W, (w.alloc (.cells #[.int .u64 T, .int .u64 S] 181)).alloc (.cells #[.int .u64 0, .int .u64 0] 181) = W := ⟨_, rfl⟩
  obtain ⟨p, hp⟩ : ∃ p, w.heap.size = p := ⟨_, rfl⟩
  obtain ⟨q, hq⟩ : ∃ q, p + 1 = q := ⟨_, rfl⟩
  rw [hW, hp, hq] at I0
  rw [hW, hp, hq]
  clear hW hp hq
  refine (PR.out _).mono ?_
  rintro e w1 ⟨rfl, kb⟩
  have I1 := Lib.hid (I0.out.up kb)
  clear kb I0
  go_wp2_with fail
  refine (told _ _).mono ?_
  rintro e w2 ⟨a0, rfl, ht0, kb0⟩
  have H0 := Lib.hid ht0
  have K0 := Lib.hid kb0
  clear ht0 kb0
  go_wp2_with fail
  refine (unless_ _ _ _).mono ?_
  rintro e w3 ⟨a1, b1, rfl, ht1, kb1⟩
  have H1 := Lib.hid ht1
  have K1 := Lib.hid kb1
  clear ht1 kb1
  go_wp2_with fail
  refine (first _ 2 _ [F, ife (P == 0) 14] _ rfl (by decide) (two _ (H0.out.bel K1.out) H1.out rfl)).mono ?_
  rintro e w6 ⟨rfl, kb⟩
  have hS6 := (((I1.out.up K0.out).up K1.out).up ((Bel.refl _).alloc _)).up kb
  clear kb
  obtain ⟨E, hE⟩ : ∃ E, fE [F, ife (P == 0) 14] = E := ⟨_, rfl⟩
  have hE' : leaE T S x = E := by rw [← hE, ← HP.out, ← HF.out]; rfl
  rw [hE]
  have I6 := Lib.hid hS6
  obtain ⟨c0, c1⟩ : w6.cell? ⟨p, 0, none⟩ = some (.int .u64 T) ∧ w6.cell? ⟨p, 1, none⟩ = some (.int .u64 S) := ⟨hS6.2.1, hS6.2.2.1⟩
  obtain ⟨d0, d1, d2, d3⟩ : w6.cell? ⟨q, 0, none⟩ = some (.int .u64 0) ∧ w6.cell? ⟨q, 1, none⟩ = some (.int .u64 0) ∧ w6.frozen? ⟨q, 0, none⟩ = false ∧ w6.frozen? ⟨q, 1, none⟩ = false := ⟨hS6.2.2.2.1.cell 0 rfl, hS6.2.2.2.1.cell 1 rfl, hS6.2.2.2.1.frozen 0, hS6.2.2.2.1.frozen 1⟩
  clear hE hS6
  have EO := Lib.hid hE'
  by_cases hz : E = 0
  · subst hz
    obtain ⟨_, _, j1, j2, j3⟩ := LO.out hE'
    rw [HP.out] at j2 j3
    have e1 : IntKind.u64.wrap (T - P) = T - P := by rw [IntKind.wrap_u64]; omega
    have e2 : IntKind.u64.wrap (S - x) = S - x := by rw [IntKind.wrap_u64]; omega
    have q1 := Lib.hid (show leaT T S x = T - P from by rw [← HP.out]; exact if_pos hE')
    have q2 := Lib.hid (show leaS T S x = S - x from if_pos hE')
    have q3 := Lib.hid (show leaN T S x = P from by rw [← HP.out]; exact if_pos hE')
    clear hE' j1 j2 j3
    go_wp2_with fail
    refine bodyPost_ret (v := .tuple #[pV (T - P) (S - x), .int .u64 P, .int .i64 0]) (res_cii rfl _ _ ⟨q, 0, none⟩ _ _ _ rfl rfl rfl (I6.out.load _ _)) rfl ⟨by rw [q1.out, q2.out, q3.out, EO.out], I6.out.end_ _ _⟩
  · have hz1 : (E != 0) = true := by simpa using hz
    have hz2 : ¬ leaE T S x = 0 := by rw [hE']; exact hz
    have q1 := Lib.hid (show leaT T S x = 0 from if_neg hz2)
    have q2 := Lib.hid (show leaS T S x = 0 from if_neg hz2)
    have q3 := Lib.hid (show leaN T S x = 0 from if_neg hz2)
    clear hE' hz2
    go_wp2_with fail
    refine bodyPost_ret (v := .tuple #[pV 0 0, .int .u64 0, .int .i64 E]) (res_cii rfl _ _ ⟨q, 0, none⟩ _ _ _ rfl rfl rfl (I6.out.load _ _)) rfl ⟨by rw [q1.out, q2.out, q3.out, EO.out], I6.out.end_ _ _⟩

/-- The document's Cut. -/
def cutE (T S b : Int) : Int := fE [chk T S, partE T b]
def cutT (T S b : Int) : Int := if cutE T S b = 0 then T - partN T b else 0
def cutS (T S b : Int) : Int := if cutE T S b = 0 ∧ ¬ partN T b = T then S else 0
def cutN (T S b : Int) : Int := if cutE T S b = 0 then partN T b else 0
theorem part_of' {a p : Int} (a0 : 0 ≤ a) (a1 : a ≤ 18446744073709551615) (p0 : 0 ≤ p) (p1 : p ≤ 1000000000) : partN a p = a * p / 1000000000 ∧ partE a p = 0 ∧ 0 ≤ a * p / 1000000000 ∧ a * p / 1000000000 ≤ a := by
  have m0 : 0 ≤ a * p := Int.mul_nonneg a0 p0
  have m1 : a * p ≤ a * 1000000000 := Int.mul_le_mul_of_nonneg_left p1 a0
  have hle : a * p / 1000000000 ≤ a := by omega
  obtain ⟨e1, e2⟩ := amt_of (P := a * p / 1000000000) (by omega)
  unfold partN partE mdN mdE
  have h1 : ¬ 1000000000 < p := by omega
  have h2 : ¬ (1000000000 : Int) = 0 := by decide
  simp only [h1, h2, if_false]
  exact ⟨e1, e2, by omega, hle⟩
theorem part_b {a p : Int} (a0 : 0 ≤ a) (a1 : a ≤ 18446744073709551615) (p0 : 0 ≤ p) : 0 ≤ partN a p ∧ partN a p ≤ a := by
  by_cases h : p ≤ 1000000000
  · obtain ⟨e1, _, e3, e4⟩ := part_of' a0 a1 p0 h
    rw [e1]
    exact ⟨e3, e4⟩
  · have e : partN a p = 0 := if_pos (by omega)
    rw [e]
    exact ⟨by decide, a0⟩

set_option maxRecDepth 10000 in
set_option maxHeartbeats 2000000 in
theorem cut (T S x : Int) (w : World) (t0 : 0 ≤ T) (t1 : T ≤ 18446744073709551615) (s0 : 0 ≤ S) (s1 : S ≤ 18446744073709551615) (x0 : 0 ≤ x) (x1 : x ≤ 18446744073709551615) :
    Calls Tryz.prog 201 #[pV T S, .int .u64 x] w fun r w' => r = .returned (.tuple #[pV (cutT T S x) (cutS T S x), .int .u64 (cutN T S x), .int .i64 (cutE T S x)]) ∧ Bel w w' := by
  have TC := Lib.hid (fun W => tells_check T S W t0 s0)
  have PR := Lib.hid (fun W => Fix.part T x W t0 t1 x0 x1)
  have hb := part_b t0 t1 x0 (p := x)
  obtain ⟨P, hP⟩ : ∃ P, partN T x = P := ⟨_, rfl⟩
  obtain ⟨F, hF⟩ : ∃ F, partE T x = F := ⟨_, rfl⟩
  rw [hP] at hb
  rw [hP, hF] at PR
  have HP := Lib.hid hP
  have HF := Lib.hid hF
  have B0 := Lib.hid hb
  clear hP hF hb
  have I0 := Lib.hid (In.start w T S)
  go_enter Tryz.func201, Tryz.ntmps201
  go_wp2_with fail
  obtain ⟨W, hW⟩ : ∃ W, (w.alloc (.cells #[.int .u64 T, .int .u64 S] 181)).alloc (.cells #[.int .u64 0, .int .u64 0] 181) = W := ⟨_, rfl⟩
  obtain ⟨p, hp⟩ : ∃ p, w.heap.size = p := ⟨_, rfl⟩
  obtain ⟨q, hq⟩ : ∃ q, p + 1 = q := ⟨_, rfl⟩
  rw [hW, hp, hq] at I0
  rw [hW, hp, hq]
  clear hW hp hq
  refine (PR.out _).mono ?_
  rintro e w1 ⟨rfl, kb⟩
  have I1 := I0.out.up kb
  clear kb I0
  go_upto_region 2 with fail
  refine wp_region_held_drew (S := fun V => In w V p q T S) (by kernel_rfl) (I1.up (Bel.refl _).drew) (fun hS0 => ?_)
  obtain ⟨w6, hw6⟩ : ∃ w6, w1.drew = w6 := ⟨_, rfl⟩
  rw [hw6] at hS0 ⊢
  clear hw6 I1
  refine ztk 0 { dst := some 17, op := .load 181 (.tmp 2), type := 181, pos := "pool.go:71", after := #[], guard := none } (pV T S) (Or.inl ⟨by rfl, by intro w h; obtain ⟨hcell, hcell2⟩ := ((show w.cell? ⟨p, 0, none⟩ = some (.int .u64 T) ∧ w.cell? ⟨p, 1, none⟩ = some (.int .u64 S) from ⟨h.2.1, h.2.2.1⟩)); clear h; go_simp⟩) hS0 ?_
  try simp only [Act.put, zq1, zq2, zq3]
  refine ztk 1 { dst := some 18, op := Op.makeFunc (Fn.func 182) #[.tmp 17] #[], type := 191, pos := "pool.go:71", after := #[{ on := 0, ground := .data }], guard := none } (.func (.func 182) #[pV T S] #[]) (Or.inl ⟨by rfl, by intro w hSw; clear hSw; go_simp⟩) hS0 ?_
  try simp only [Act.put, zq1, zq2, zq3]
  refine ztk 2 { dst := some 19, op := .move (.tmp 8), type := 30, pos := "pool.go:71", after := #[], guard := none } (.int .i64 F) (Or.inl ⟨by rfl, by intro w hSw; clear hSw; go_simp⟩) hS0 ?_
  try simp only [Act.put, zq1, zq2, zq3]
  refine wpAnyH_ready (rs := [3]) (by kernel_rfl) (by simp) ?_
  refine AllReadyH.cons (o := { dst := some 20, op := .call { callee := .value (.func 219), args := #[.tmp 19], argTypes := #[30] }, type := 223, pos := "pool.go:71", after := #[{ on := 2, ground := .data }], guard := none }) rfl (fun K hK => ?_) AllReadyH.nil
  go_simp
  refine (told _ _).mono ?_
  rintro e v1 ⟨a1, rfl, ht1, kb1⟩
  go_wp2_with fail
  refine hK.out _ _ (hS0.up kb1) (fun hS1 => ?_)
  clear hK K
  try simp only [Act.put, zq1, zq2, zq3]
  refine wpAnyH_ready (rs := [4]) (by kernel_rfl) (by simp) ?_
  refine AllReadyH.cons (o := { dst := some 21, op := .buildSlice 245 2 #[(0, .tmp 18), (1, .tmp 20)], type := 245, pos := "pool.go:71", after := #[{ on := 1, ground := .data }, { on := 3, ground := .data }], guard := none }) rfl (fun K hK => ?_) AllReadyH.nil
  go_simp
  refine hK.out _ _ (hS1.up ((Bel.refl _).alloc _)) (fun hS2 => ?_)
  clear hK K
  try simp only [Act.put, zq1, zq2, zq3]
  refine wpAnyH_ready (rs := [5]) (by kernel_rfl) (by simp) ?_
  refine AllReadyH.cons (o := { dst := some 22, op := .call { callee := .value (.func 190), args := #[.tmp 21], argTypes := #[245] }, type := 30, pos := "pool.go:71", after := #[{ on := 4, ground := .data }, { on := 3, ground := .chain }], guard := none }) rfl (fun K hK => ?_) AllReadyH.nil
  go_simp
  refine (first _ 2 _ [chk T S, F] _ rfl (by decide) (two _ (TC.out _) ht1 rfl)).mono ?_
  rintro e v3 ⟨rfl, kb4⟩
  go_wp2_with fail
  refine hK.out _ _ (hS2.up kb4) (fun hS3 => ?_)
  clear hK K
  try simp only [Act.put, zq1, zq2, zq3]
  refine ztk 6 { dst := some 9, op := .assign (.tmp 22), type := 30, pos := "pool.go:71", after := #[{ on := 5, ground := .data }, { on := 5, ground := .chain }, { on := 0, ground := .phase }, { on := 1, ground := .phase }, { on := 2, ground := .phase }, { on := 3, ground := .phase }, { on := 4, ground := .phase }, { on := 5, ground := .phase }], guard := none } (.int .i64 (fE [chk T S, F])) (Or.inl ⟨by rfl, by intro w hSw; clear hSw; go_simp⟩) hS3 ?_
  try simp only [Act.put, zq1, zq2, zq3]
  refine wpAnyH_done (by kernel_rfl) ?_ _
  obtain ⟨w7, h7⟩ : ∃ w7, v3 = w7 := ⟨_, rfl⟩
  rw [h7] at hS3 ⊢
  have hS6 := hS3
  obtain ⟨E, hE⟩ : ∃ E, fE [chk T S, F] = E := ⟨_, rfl⟩
  have hE' : cutE T S x = E := by rw [← hE, ← HF.out]; rfl
  rw [hE]
  have I6 := Lib.hid hS6
  clear h7 hS1 hS2 hS3 hS0
  obtain ⟨c0, c1⟩ : w7.cell? ⟨p, 0, none⟩ = some (.int .u64 T) ∧ w7.cell? ⟨p, 1, none⟩ = some (.int .u64 S) := ⟨hS6.2.1, hS6.2.2.1⟩
  obtain ⟨d0, d1, d2, d3⟩ : w7.cell? ⟨q, 0, none⟩ = some (.int .u64 0) ∧ w7.cell? ⟨q, 1, none⟩ = some (.int .u64 0) ∧ w7.frozen? ⟨q, 0, none⟩ = false ∧ w7.frozen? ⟨q, 1, none⟩ = false := ⟨hS6.2.2.2.1.cell 0 rfl, hS6.2.2.2.1.cell 1 rfl, hS6.2.2.2.1.frozen 0, hS6.2.2.2.1.frozen 1⟩
  clear hE hS6
  have EO := Lib.hid hE'
  by_cases hz : E = 0
  · subst hz
    obtain ⟨p0, p1⟩ := B0.out
    have q1 := Lib.hid (show cutT T S x = T - P from by rw [← HP.out]; exact if_pos hE')
    have q3 := Lib.hid (show cutN T S x = P from by rw [← HP.out]; exact if_pos hE')
    by_cases hPT : P = T
    · have q2 := Lib.hid (show cutS T S x = 0 from if_neg fun h => h.2 (by rw [HP.out]; exact hPT))
      have hPT1 : (P == T) = true := by simpa using hPT
      have q4 := Lib.hid (show T - P = 0 by omega)
      clear hE' hPT
      go_wp2_with fail
      refine bodyPost_ret (v := .tuple #[pV 0 0, .int .u64 P, .int .i64 0]) (res_cii rfl _ _ ⟨q, 0, none⟩ _ _ _ rfl rfl rfl (I6.out.load _ _)) rfl ⟨by rw [q1.out, q2.out, q3.out, EO.out, q4.out], I6.out.end_ _ _⟩
    · have q2 := Lib.hid (show cutS T S x = S from if_pos ⟨hE', by rw [HP.out]; exact hPT⟩)
      have hPT1 : (P == T) = false := by simpa using hPT
      have e1 : IntKind.u64.wrap (T - P) = T - P := by rw [IntKind.wrap_u64]; omega
      clear hE'
      go_wp2_with fail
      refine bodyPost_ret (v := .tuple #[pV (T - P) S, .int .u64 P, .int .i64 0]) (res_cii rfl _ _ ⟨q, 0, none⟩ _ _ _ rfl rfl rfl (I6.out.load _ _)) rfl ⟨by rw [q1.out, q2.out, q3.out, EO.out], I6.out.end_ _ _⟩
  · have hz1 : (E != 0) = true := by simpa using hz
    have hz2 : ¬ cutE T S x = 0 := by rw [hE']; exact hz
    have q1 := Lib.hid (show cutT T S x = 0 from if_neg hz2)
    have q2 := Lib.hid (show cutS T S x = 0 from if_neg fun h => hz2 h.1)
    have q3 := Lib.hid (show cutN T S x = 0 from if_neg hz2)
    clear hE' hz2
    go_wp2_with fail
    refine bodyPost_ret (v := .tuple #[pV 0 0, .int .u64 0, .int .i64 E]) (res_cii rfl _ _ ⟨q, 0, none⟩ _ _ _ rfl rfl rfl (I6.out.load _ _)) rfl ⟨by rw [q1.out, q2.out, q3.out, EO.out], I6.out.end_ _ _⟩
end Sh
end Go.Proofs.YtneajcoiemkfbaaGreat
end

section
/-
  What share's exported functions answer, as plain functions of the numbers. Conditions: the amounts are words.
-/
namespace Go.Proofs.YtneajcoiemkfbaaGreat
open Go.RowKit Go.Shelf
set_option linter.unusedVariables false
namespace Sh
open Fix

theorem checkE (T S : Int) (w : World) (t0 : 0 ≤ T) (s0 : 0 ≤ S) :
    Calls Tryz.prog 131 #[pV T S] w fun r w' => r = .returned (.int .i64 (chk T S)) ∧ Bel w w' := by
  have CH := Lib.hid (fun W => check T S W t0 s0)
  go_enter Tryz.func131, Tryz.ntmps131
  go_wp2_with fail
  refine (CH.out _).mono ?_
  rintro e w1 ⟨rfl, kb⟩
  have k := Lib.hid (((Bel.refl w).alloc (.cells #[.int .u64 T, .int .u64 S] 46)).trans kb)
  clear kb
  go_wp2_with fail
  go_ret
  exact ⟨rfl, k.out⟩
theorem valueE (T S x : Int) (w : World) (t0 : 0 ≤ T) (t1 : T ≤ 18446744073709551615) (s0 : 0 ≤ S) (s1 : S ≤ 18446744073709551615) (x0 : 0 ≤ x) (x1 : x ≤ 18446744073709551615) :
    Calls Tryz.prog 75 #[pV T S, .int .u64 x] w fun r w' => r = .returned (.tuple #[.int .u64 (valN T S x), .int .i64 (valE T S x)]) ∧ Bel w w' := by
  have CH := Lib.hid (fun W => value T S x W t0 t1 s0 s1 x0 x1)
  go_enter Tryz.func75, Tryz.ntmps75
  go_wp2_with fail
  refine (CH.out _).mono ?_
  rintro e w1 ⟨rfl, kb⟩
  have k := Lib.hid (((Bel.refl w).alloc (.cells #[.int .u64 T, .int .u64 S] 46)).trans kb)
  clear kb
  go_wp2_with fail
  go_ret2
  exact ⟨rfl, k.out⟩
/-- The world of an exported operation: its result in the block q. -/
def Ou (w W : World) (q : Nat) : Prop := Bel w W ∧ Kk.Blk W q #[.int .u64 0, .int .u64 0] 46 ∧ w.heap.size ≤ q
theorem Ou.up {w W W' : World} {q : Nat} (h : Ou w W q) (hb : Bel W W') : Ou w W' q := ⟨h.1.trans hb, h.2.1.bel hb, h.2.2⟩
theorem Ou.start (w : World) (T S : Int) : Ou w ((w.alloc (.cells #[.int .u64 T, .int .u64 S] 46)).alloc (.cells #[.int .u64 0, .int .u64 0] 46)) (w.heap.size + 1) :=
  ⟨((Bel.refl _).alloc _).alloc _, by
    have := Kk.Blk.new (w.alloc (.cells #[.int .u64 T, .int .u64 S] 46)) #[.int .u64 0, .int .u64 0] 46
    simpa using this, by omega⟩
theorem Ou.load {w W : World} {q : Nat} (h : Ou w W q) (A B : Int) (o : Obj) : (loadVar 46 ⟨q, 0, none⟩).run Tryz.prog (((W.setCell ⟨q, 0, none⟩ (.int .u64 A)).setCell ⟨q, 1, none⟩ (.int .u64 B)).alloc o) = .ok (pV A B) (((W.setCell ⟨q, 0, none⟩ (.int .u64 A)).setCell ⟨q, 1, none⟩ (.int .u64 B)).alloc o) :=
  Pm.load_b (C := [.int .u64 A, .int .u64 B]) (((h.2.1.set 0 _).set 1 _).alloc o) Tryz.underlying46 rfl (by kernel_rfl)
theorem Ou.end_ {w W : World} {q : Nat} (h : Ou w W q) (u v : Value) : Bel w ((W.setCell ⟨q, 0, none⟩ u).setCell ⟨q, 1, none⟩ v) :=
  (h.1.set h.2.2 _).set h.2.2 _
set_option maxHeartbeats 1000000 in
theorem joinX (T S x : Int) (w : World) (t0 : 0 ≤ T) (t1 : T ≤ 18446744073709551615) (s0 : 0 ≤ S) (s1 : S ≤ 18446744073709551615) (x0 : 0 ≤ x) (x1 : x ≤ 18446744073709551615) :
    Calls Tryz.prog 186 #[pV T S, .int .u64 x] w fun r w' => r = .returned (.tuple #[pV (joiT T S x) (joiS T S x), .int .u64 (joiN T S x), .int .i64 (joiE T S x)]) ∧ Bel w w' := by
  have CH := Lib.hid (fun W => join T S x W t0 t1 s0 s1 x0 x1)
  have I0 := Lib.hid (Ou.start w T S)
  obtain ⟨A, hA⟩ : ∃ A, joiT T S x = A := ⟨_, rfl⟩
  obtain ⟨B, hB⟩ : ∃ B, joiS T S x = B := ⟨_, rfl⟩
  obtain ⟨C, hC⟩ : ∃ C, joiN T S x = C := ⟨_, rfl⟩
  obtain ⟨D, hD⟩ : ∃ D, joiE T S x = D := ⟨_, rfl⟩
  rw [hA, hB, hC, hD] at CH
  rw [hA, hB, hC, hD]
  clear hA hB hC hD
  go_enter Tryz.func186, Tryz.ntmps186
  go_wp2_with fail
  obtain ⟨W, hW⟩ : ∃ W, (w.alloc (.cells #[.int .u64 T, .int .u64 S] 46)).alloc (.cells #[.int .u64 0, .int .u64 0] 46) = W := ⟨_, rfl⟩
  obtain ⟨q, hq⟩ : ∃ q, w.heap.size + 1 = q := ⟨_, rfl⟩
  rw [hW, hq] at I0
  rw [hW, hq]
  clear hW hq
  refine (CH.out _).mono ?_
  rintro e w1 ⟨rfl, kb⟩
  have hS1 := (I0.out.up kb)
  clear kb I0
  have I1 := Lib.hid hS1
  obtain ⟨d0, d1, d2, d3⟩ : w1.cell? ⟨q, 0, none⟩ = some (.int .u64 0) ∧ w1.cell? ⟨q, 1, none⟩ = some (.int .u64 0) ∧ w1.frozen? ⟨q, 0, none⟩ = false ∧ w1.frozen? ⟨q, 1, none⟩ = false := ⟨hS1.2.1.cell 0 rfl, hS1.2.1.cell 1 rfl, hS1.2.1.frozen 0, hS1.2.1.frozen 1⟩
  have hq1 : q < w1.heap.size := hS1.2.1.lt
  clear hS1
  go_wp2_with fail
  refine bodyPost_ret (v := .tuple #[pV A B, .int .u64 C, .int .i64 D]) (res_cii rfl _ _ ⟨q, 0, none⟩ _ _ _ rfl rfl rfl (I1.out.load _ _ _)) rfl ⟨rfl, (I1.out.end_ _ _).alloc _⟩
set_option maxHeartbeats 1000000 in
theorem leaveX (T S x : Int) (w : World) (t0 : 0 ≤ T) (t1 : T ≤ 18446744073709551615) (s0 : 0 ≤ S) (s1 : S ≤ 18446744073709551615) (x0 : 0 ≤ x) (x1 : x ≤ 18446744073709551615) :
    Calls Tryz.prog 176 #[pV T S, .int .u64 x] w fun r w' => r = .returned (.tuple #[pV (leaT T S x) (leaS T S x), .int .u64 (leaN T S x), .int .i64 (leaE T S x)]) ∧ Bel w w' := by
  have CH := Lib.hid (fun W => leave T S x W t0 t1 s0 s1 x0 x1)
  have I0 := Lib.hid (Ou.start w T S)
  obtain ⟨A, hA⟩ : ∃ A, leaT T S x = A := ⟨_, rfl⟩
  obtain ⟨B, hB⟩ : ∃ B, leaS T S x = B := ⟨_, rfl⟩
  obtain ⟨C, hC⟩ : ∃ C, leaN T S x = C := ⟨_, rfl⟩
  obtain ⟨D, hD⟩ : ∃ D, leaE T S x = D := ⟨_, rfl⟩
  rw [hA, hB, hC, hD] at CH
  rw [hA, hB, hC, hD]
  clear hA hB hC hD
  go_enter Tryz.func176, Tryz.ntmps176
  go_wp2_with fail
  obtain ⟨W, hW⟩ : ∃ W, (w.alloc (.cells #[.int .u64 T, .int .u64 S] 46)).alloc (.cells #[.int .u64 0, .int .u64 0] 46) = W := ⟨_, rfl⟩
  obtain ⟨q, hq⟩ : ∃ q, w.heap.size + 1 = q := ⟨_, rfl⟩
  rw [hW, hq] at I0
  rw [hW, hq]
  clear hW hq
  refine (CH.out _).mono ?_
  rintro e w1 ⟨rfl, kb⟩
  have hS1 := (I0.out.up kb)
  clear kb I0
  have I1 := Lib.hid hS1
  obtain ⟨d0, d1, d2, d3⟩ : w1.cell? ⟨q, 0, none⟩ = some (.int .u64 0) ∧ w1.cell? ⟨q, 1, none⟩ = some (.int .u64 0) ∧ w1.frozen? ⟨q, 0, none⟩ = false ∧ w1.frozen? ⟨q, 1, none⟩ = false := ⟨hS1.2.1.cell 0 rfl, hS1.2.1.cell 1 rfl, hS1.2.1.frozen 0, hS1.2.1.frozen 1⟩
  have hq1 : q < w1.heap.size := hS1.2.1.lt
  clear hS1
  go_wp2_with fail
  refine bodyPost_ret (v := .tuple #[pV A B, .int .u64 C, .int .i64 D]) (res_cii rfl _ _ ⟨q, 0, none⟩ _ _ _ rfl rfl rfl (I1.out.load _ _ _)) rfl ⟨rfl, (I1.out.end_ _ _).alloc _⟩
set_option maxHeartbeats 1000000 in
theorem cutX (T S x : Int) (w : World) (t0 : 0 ≤ T) (t1 : T ≤ 18446744073709551615) (s0 : 0 ≤ S) (s1 : S ≤ 18446744073709551615) (x0 : 0 ≤ x) (x1 : x ≤ 18446744073709551615) :
    Calls Tryz.prog 174 #[pV T S, .int .u64 x] w fun r w' => r = .returned (.tuple #[pV (cutT T S x) (cutS T S x), .int .u64 (cutN T S x), .int .i64 (cutE T S x)]) ∧ Bel w w' := by
  have CH := Lib.hid (fun W => cut T S x W t0 t1 s0 s1 x0 x1)
  have I0 := Lib.hid (Ou.start w T S)
  obtain ⟨A, hA⟩ : ∃ A, cutT T S x = A := ⟨_, rfl⟩
  obtain ⟨B, hB⟩ : ∃ B, cutS T S x = B := ⟨_, rfl⟩
  obtain ⟨C, hC⟩ : ∃ C, cutN T S x = C := ⟨_, rfl⟩
  obtain ⟨D, hD⟩ : ∃ D, cutE T S x = D := ⟨_, rfl⟩
  rw [hA, hB, hC, hD] at CH
  rw [hA, hB, hC, hD]
  clear hA hB hC hD
  go_enter Tryz.func174, Tryz.ntmps174
  go_wp2_with fail
  obtain ⟨W, hW⟩ : ∃ W, (w.alloc (.cells #[.int .u64 T, .int .u64 S] 46)).alloc (.cells #[.int .u64 0, .int .u64 0] 46) = W := ⟨_, rfl⟩
  obtain ⟨q, hq⟩ : ∃ q, w.heap.size + 1 = q := ⟨_, rfl⟩
  rw [hW, hq] at I0
  rw [hW, hq]
  clear hW hq
  refine (CH.out _).mono ?_
  rintro e w1 ⟨rfl, kb⟩
  have hS1 := (I0.out.up kb)
  clear kb I0
  have I1 := Lib.hid hS1
  obtain ⟨d0, d1, d2, d3⟩ : w1.cell? ⟨q, 0, none⟩ = some (.int .u64 0) ∧ w1.cell? ⟨q, 1, none⟩ = some (.int .u64 0) ∧ w1.frozen? ⟨q, 0, none⟩ = false ∧ w1.frozen? ⟨q, 1, none⟩ = false := ⟨hS1.2.1.cell 0 rfl, hS1.2.1.cell 1 rfl, hS1.2.1.frozen 0, hS1.2.1.frozen 1⟩
  have hq1 : q < w1.heap.size := hS1.2.1.lt
  clear hS1
  go_wp2_with fail
  refine bodyPost_ret (v := .tuple #[pV A B, .int .u64 C, .int .i64 D]) (res_cii rfl _ _ ⟨q, 0, none⟩ _ _ _ rfl rfl rfl (I1.out.load _ _ _)) rfl ⟨rfl, (I1.out.end_ _ _).alloc _⟩
end Sh
end Go.Proofs.YtneajcoiemkfbaaGreat
end
