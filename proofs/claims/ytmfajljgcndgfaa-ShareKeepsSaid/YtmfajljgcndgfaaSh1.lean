/-
  A list of conditions, each a function value that tells an error: share.first tells the first error, or OK; what unless, told and room make. No condition.
-/
import Derived.Test.YtmfajljgcndgfaaFixApi
import Derived.Deep.RegionHeld3
import Derived.Deep.Cut
import Derived.Deep.DeepCutAuto
import Derived.BigQuiet
import Derived.Deep.QuietTactic
namespace Go.Proofs.Ytmfajljgcndgfaa
open Go.RowKit Go.Shelf
set_option linter.unusedVariables false
namespace Sh

/-- The function value v, called in any later world, tells e and leaves what is there. -/
def Tells (w : World) (v : Value) (e : Int) : Prop :=
  ∃ (k : Nat) (fs cs : Array Value), v = .func (.func k) fs cs ∧ (∀ args w', (callFunc k args).run Try.prog w' = .ok (.enter k args) w') ∧ ∀ w', Bel w w' → Calls Try.prog k (fs ++ cs) w' fun r w'' => r = .returned (.int .i64 e) ∧ Bel w' w''
theorem Tells.bel {w w' : World} {v : Value} {e : Int} (h : Tells w v e) (hb : Bel w w') : Tells w' v e := by
  obtain ⟨k, fs, cs, h1, h2, h3⟩ := h
  exact ⟨k, fs, cs, h1, h2, fun w1 h1 => h3 w1 (hb.trans h1)⟩
theorem cell_bel {w w' : World} {b o : Nat} {v : Value} (h : w.cell? ⟨b, o, none⟩ = some v) (hb : Bel w w') : w'.cell? ⟨b, o, none⟩ = some v :=
  (Below.cell (p := ⟨b, o, none⟩) hb (World.block_lt_of_cell? w ⟨b, o, none⟩ h)).trans h

/-- The first error of a list. -/
def fE : List Int → Int
  | [] => 0
  | x :: l => if x = 0 then fE l else x
theorem fE_at {es : List Int} {k : Nat} (h : ∀ j, j < k → es.getD j 0 = 0) (hk : k < es.length) (hne : ¬ es.getD k 0 = 0) : fE es = es.getD k 0 := by
  induction es generalizing k with
  | nil => simp at hk
  | cons x l ih =>
    match k, h, hk, hne with
    | 0, h, hk, hne => unfold fE; rw [if_neg (by simpa using hne)]; simp
    | k + 1, h, hk, hne =>
      have h0 := h 0 (by omega)
      have h0 : x = 0 := by simpa using h0
      unfold fE
      rw [if_pos h0]
      have := ih (k := k) (fun j hj => by have := h (j + 1) (by omega); simpa using this) (by simpa using hk) (by simpa using hne)
      rw [this]; simp
theorem fE_end {es : List Int} (h : ∀ j, j < es.length → es.getD j 0 = 0) : fE es = 0 := by
  induction es with
  | nil => rfl
  | cons x l ih =>
    have h0 := h 0 (by simp)
    have h0 : x = 0 := by simpa using h0
    unfold fE
    rw [if_pos h0]
    exact ih fun j hj => by have := h (j + 1) (by simpa using hj); simpa using this

set_option maxHeartbeats 1000000 in
theorem first (b n c : Nat) (es : List Int) (w : World) (hl : es.length = n) (hn : n ≤ 100) (hc : ∀ i, i < n → ∃ v, w.cell? ⟨b, i, none⟩ = some v ∧ Tells w v (es.getD i 0)) :
    Calls Try.prog 44 #[.slice (some ⟨b, 0, none⟩) n c] w fun e w' => e = .returned (.int .i64 (fE es)) ∧ Bel w w' := by
  have HC := Lib.hid hc
  have HL := Lib.hid hl
  clear hc hl
  go_enter Try.func44, Try.ntmps44
  go_wp2_with fail
  go_loopw [2, 8] (fun r i wr => ∃ k : Nat, k ≤ n ∧ i = .int .i64 k ∧ r = .int .i64 0 ∧ (∀ j, j < k → es.getD j 0 = 0) ∧ Bel w wr) (fun _ i _ => n - (intOf i).toNat)
  case atStart => exact ⟨0, Nat.zero_le _, rfl, rfl, fun j hj => absurd hj (by omega), Bel.refl _⟩
  case round =>
    obtain ⟨k, hk, rfl, rfl, hz, hb⟩ := hrel
    have HZ := Lib.hid hz
    clear hz
    by_cases hlt : k < n
    · obtain ⟨v, hv, F, fs, cs, rfl, CF, HF⟩ := HC.out k hlt
      have HF := Lib.hid (HF wr hb)
      have hcell := cell_bel hv hb
      clear hv
      have hB := Lib.hid hb
      clear hb
      generalize hE : es.getD k 0 = E at *
      have HE := Lib.hid hE
      clear hE
      go_wp2_with fail
      refine (HF.out).mono ?_
      rintro e w' ⟨rfl, hb'⟩
      have hall := Lib.hid (hB.out.trans hb')
      clear hb'
      by_cases hE : E = 0
      · subst hE
        go_wp2_with fail
        go_roundw
        case rel => exact ⟨k + 1, by omega, by go_num, rfl, fun j hj => by
          by_cases e : j = k
          · rw [e]; exact HE.out
          · exact HZ.out j (by omega), hall.out⟩
        case measure => simp [intOf]; omega
      · have hE1 : (E != 0) = true := by simpa using hE
        go_wp2_with fail
        go_ret
        exact ⟨by rw [fE_at HZ.out (by rw [HL.out]; omega) (by rw [HE.out]; exact hE), HE.out]; rfl, hall.out⟩
    · obtain rfl : k = n := by omega
      go_wp2_with fail
      go_ret
      exact ⟨by rw [fE_end (by rw [HL.out]; exact HZ.out)]; rfl, hb⟩

/-- e where it is so, else 0. -/
def ife (b : Bool) (e : Int) : Int := if b then e else 0
theorem enter_a (args : Array Value) (w : World) : (callFunc 56 args).run Try.prog w = .ok (.enter 56 args) w := by go_simp
theorem enter_b (args : Array Value) (w : World) : (callFunc 61 args).run Try.prog w = .ok (.enter 61 args) w := by go_simp
theorem enter_c (args : Array Value) (w : World) : (callFunc 65 args).run Try.prog w = .ok (.enter 65 args) w := by go_simp
theorem enter_d (args : Array Value) (w : World) : (callFunc 67 args).run Try.prog w = .ok (.enter 67 args) w := by go_simp
theorem enter_e (args : Array Value) (w : World) : (callFunc 33 args).run Try.prog w = .ok (.enter 33 args) w := by go_simp
theorem new_cell (w : World) (v : Value) (t : TypeId) {n : Nat} (h : w.heap.size = n) : (w.alloc (.cells #[v] t)).cell? ⟨n, 0, none⟩ = some v := by subst h; simp

theorem unless1 (p q : Nat) (b : Bool) (e : Int) (w : World) (h1 : w.cell? ⟨p, 0, none⟩ = some (.bool b)) (h2 : w.cell? ⟨q, 0, none⟩ = some (.int .i64 e)) :
    Calls Try.prog 56 #[.pointer (some ⟨p, 0, none⟩), .pointer (some ⟨q, 0, none⟩)] w fun r w' => r = .returned (.int .i64 (ife b e)) ∧ Bel w w' := by
  cases b
  all_goals
    go_enter Try.func56, Try.ntmps56
    go_wp2
    go_ret
    exact ⟨rfl, Bel.refl _⟩
theorem unless_ (b : Bool) (e : Int) (w : World) :
    Calls Try.prog 45 #[.bool b, .int .i64 e] w fun r w' => ∃ p q : Nat, r = .returned (.func (.func 56) #[] #[.pointer (some ⟨p, 0, none⟩), .pointer (some ⟨q, 0, none⟩)]) ∧ Tells w' (.func (.func 56) #[] #[.pointer (some ⟨p, 0, none⟩), .pointer (some ⟨q, 0, none⟩)]) (ife b e) ∧ Bel w w' := by
  go_enter Try.func45, Try.ntmps45
  go_wp2
  go_ret
  refine ⟨_, _, rfl, ⟨_, _, _, rfl, enter_a, fun w' hb => ?_⟩, ((Bel.refl _).alloc _).alloc _⟩
  exact unless1 _ _ b e w' (cell_bel (cell_bel (new_cell w _ _ rfl) ((Bel.refl _).alloc _)) hb) (cell_bel (new_cell _ _ _ (by simp)) hb)

theorem told1 (p : Nat) (e : Int) (w : World) (h1 : w.cell? ⟨p, 0, none⟩ = some (.int .i64 e)) :
    Calls Try.prog 61 #[.pointer (some ⟨p, 0, none⟩)] w fun r w' => r = .returned (.int .i64 e) ∧ Bel w w' := by
  go_enter Try.func61, Try.ntmps61
  go_wp2
  go_ret
  exact ⟨rfl, Bel.refl _⟩
theorem told (e : Int) (w : World) :
    Calls Try.prog 55 #[.int .i64 e] w fun r w' => ∃ p : Nat, r = .returned (.func (.func 61) #[] #[.pointer (some ⟨p, 0, none⟩)]) ∧ Tells w' (.func (.func 61) #[] #[.pointer (some ⟨p, 0, none⟩)]) e ∧ Bel w w' := by
  go_enter Try.func55, Try.ntmps55
  go_wp2
  go_ret
  exact ⟨_, rfl, ⟨_, _, _, rfl, enter_b, fun w' hb => told1 _ e w' (cell_bel (new_cell w _ _ rfl) hb)⟩, (Bel.refl _).alloc _⟩

/-- What room tells: ErrOver where a sum is more than most. -/
def roomE (a n most : Int) : Int := if most < a + n then 12 else 0
open Fix
theorem room1c (p q s : Nat) (a n m : Int) (w : World) (a0 : 0 ≤ a) (a1 : a ≤ 18446744073709551615) (n0 : 0 ≤ n) (n1 : n ≤ 18446744073709551615) (m0 : 0 ≤ m) (m1 : m ≤ 18446744073709551615)
    (h1 : w.cell? ⟨p, 0, none⟩ = some (.int .u64 a)) (h2 : w.cell? ⟨q, 0, none⟩ = some (.int .u64 n)) (h3 : w.cell? ⟨s, 0, none⟩ = some (.int .u64 m)) :
    Calls Try.prog 65 #[.pointer (some ⟨p, 0, none⟩), .pointer (some ⟨q, 0, none⟩), .pointer (some ⟨s, 0, none⟩)] w fun r w' => r = .returned (.int .i64 (roomE a n m)) ∧ Bel w w' := by
  have AD := Lib.hid (fun w => add a n w a0 a1 n0 n1)
  rcases Int.lt_or_le 18446744073709551615 (a + n) with hg | hg
  · obtain ⟨e1, e2⟩ := amt_no hg
    have e3 : roomE a n m = 12 := if_pos (by omega)
    rw [e3]
    rw [e1, e2] at AD
    clear e1 e2 e3 hg
    go_enter Try.func65, Try.ntmps65
    go_wp2_with fail
    refine (AD.out _).mono ?_
    rintro e w' ⟨rfl, hb⟩
    have HB := Lib.hid hb
    clear hb
    go_wp2_with fail
    go_ret
    exact ⟨rfl, HB.out⟩
  · obtain ⟨e1, e2⟩ := amt_of hg
    rw [e1, e2] at AD
    clear e1 e2
    go_enter Try.func65, Try.ntmps65
    go_wp2_with fail
    refine (AD.out _).mono ?_
    rintro e w' ⟨rfl, hb⟩
    have c3 := cell_bel h3 hb
    have HB := Lib.hid hb
    clear hb
    by_cases hm : m < a + n
    · have e3 : roomE a n m = 12 := if_pos hm
      have E3 := Lib.hid e3
      clear e3
      go_wp2_with fail
      go_ret
      exact ⟨by rw [E3.out]; rfl, HB.out⟩
    · have e3 : roomE a n m = 0 := if_neg hm
      have E3 := Lib.hid e3
      clear e3
      go_wp2_with fail
      go_ret
      exact ⟨by rw [E3.out]; rfl, HB.out⟩
theorem roomc (a n m : Int) (w : World) (a0 : 0 ≤ a) (a1 : a ≤ 18446744073709551615) (n0 : 0 ≤ n) (n1 : n ≤ 18446744073709551615) (m0 : 0 ≤ m) (m1 : m ≤ 18446744073709551615) :
    Calls Try.prog 59 #[.int .u64 a, .int .u64 n, .int .u64 m] w fun r w' => ∃ p q s : Nat, r = .returned (.func (.func 65) #[] #[.pointer (some ⟨p, 0, none⟩), .pointer (some ⟨q, 0, none⟩), .pointer (some ⟨s, 0, none⟩)]) ∧ Tells w' (.func (.func 65) #[] #[.pointer (some ⟨p, 0, none⟩), .pointer (some ⟨q, 0, none⟩), .pointer (some ⟨s, 0, none⟩)]) (roomE a n m) ∧ Bel w w' := by
  go_enter Try.func59, Try.ntmps59
  go_wp2
  go_ret
  refine ⟨_, _, _, rfl, ⟨_, _, _, rfl, enter_c, fun w' hb => ?_⟩, (((Bel.refl _).alloc _).alloc _).alloc _⟩
  exact room1c _ _ _ a n m w' a0 a1 n0 n1 m0 m1 (cell_bel (cell_bel (cell_bel (new_cell w _ _ rfl) ((Bel.refl _).alloc _)) ((Bel.refl _).alloc _)) hb) (cell_bel (cell_bel (new_cell _ _ _ (by simp)) ((Bel.refl _).alloc _)) hb) (cell_bel (new_cell _ _ _ (by simp)) hb)
theorem room1d (p q s : Nat) (a n m : Int) (w : World) (a0 : 0 ≤ a) (a1 : a ≤ 18446744073709551615) (n0 : 0 ≤ n) (n1 : n ≤ 18446744073709551615) (m0 : 0 ≤ m) (m1 : m ≤ 18446744073709551615)
    (h1 : w.cell? ⟨p, 0, none⟩ = some (.int .u64 a)) (h2 : w.cell? ⟨q, 0, none⟩ = some (.int .u64 n)) (h3 : w.cell? ⟨s, 0, none⟩ = some (.int .u64 m)) :
    Calls Try.prog 67 #[.pointer (some ⟨p, 0, none⟩), .pointer (some ⟨q, 0, none⟩), .pointer (some ⟨s, 0, none⟩)] w fun r w' => r = .returned (.int .i64 (roomE a n m)) ∧ Bel w w' := by
  have AD := Lib.hid (fun w => add a n w a0 a1 n0 n1)
  rcases Int.lt_or_le 18446744073709551615 (a + n) with hg | hg
  · obtain ⟨e1, e2⟩ := amt_no hg
    have e3 : roomE a n m = 12 := if_pos (by omega)
    rw [e3]
    rw [e1, e2] at AD
    clear e1 e2 e3 hg
    go_enter Try.func67, Try.ntmps67
    go_wp2_with fail
    refine (AD.out _).mono ?_
    rintro e w' ⟨rfl, hb⟩
    have HB := Lib.hid hb
    clear hb
    go_wp2_with fail
    go_ret
    exact ⟨rfl, HB.out⟩
  · obtain ⟨e1, e2⟩ := amt_of hg
    rw [e1, e2] at AD
    clear e1 e2
    go_enter Try.func67, Try.ntmps67
    go_wp2_with fail
    refine (AD.out _).mono ?_
    rintro e w' ⟨rfl, hb⟩
    have c3 := cell_bel h3 hb
    have HB := Lib.hid hb
    clear hb
    by_cases hm : m < a + n
    · have e3 : roomE a n m = 12 := if_pos hm
      have E3 := Lib.hid e3
      clear e3
      go_wp2_with fail
      go_ret
      exact ⟨by rw [E3.out]; rfl, HB.out⟩
    · have e3 : roomE a n m = 0 := if_neg hm
      have E3 := Lib.hid e3
      clear e3
      go_wp2_with fail
      go_ret
      exact ⟨by rw [E3.out]; rfl, HB.out⟩
theorem roomd (a n m : Int) (w : World) (a0 : 0 ≤ a) (a1 : a ≤ 18446744073709551615) (n0 : 0 ≤ n) (n1 : n ≤ 18446744073709551615) (m0 : 0 ≤ m) (m1 : m ≤ 18446744073709551615) :
    Calls Try.prog 60 #[.int .u64 a, .int .u64 n, .int .u64 m] w fun r w' => ∃ p q s : Nat, r = .returned (.func (.func 67) #[] #[.pointer (some ⟨p, 0, none⟩), .pointer (some ⟨q, 0, none⟩), .pointer (some ⟨s, 0, none⟩)]) ∧ Tells w' (.func (.func 67) #[] #[.pointer (some ⟨p, 0, none⟩), .pointer (some ⟨q, 0, none⟩), .pointer (some ⟨s, 0, none⟩)]) (roomE a n m) ∧ Bel w w' := by
  go_enter Try.func60, Try.ntmps60
  go_wp2
  go_ret
  refine ⟨_, _, _, rfl, ⟨_, _, _, rfl, enter_d, fun w' hb => ?_⟩, (((Bel.refl _).alloc _).alloc _).alloc _⟩
  exact room1d _ _ _ a n m w' a0 a1 n0 n1 m0 m1 (cell_bel (cell_bel (cell_bel (new_cell w _ _ rfl) ((Bel.refl _).alloc _)) ((Bel.refl _).alloc _)) hb) (cell_bel (cell_bel (new_cell _ _ _ (by simp)) ((Bel.refl _).alloc _)) hb) (cell_bel (new_cell _ _ _ (by simp)) hb)
end Sh
end Go.Proofs.Ytmfajljgcndgfaa
