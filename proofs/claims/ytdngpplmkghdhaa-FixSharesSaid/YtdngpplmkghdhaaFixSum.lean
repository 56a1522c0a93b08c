/-
  What fixnum.Sum answers in this program: the sum of a slice of words, or 0 and ErrOver.
  Conditions: the slice reads as words from 0 to 2^64 - 1.
-/
import Derived.Test.YtdngpplmkghdhaaFixApi
namespace Go.Proofs.Ytdngpplmkghdhaa
open Go.RowKit Go.Shelf
set_option linter.unusedVariables false

/-- A slice that reads as the numbers zs (its elements). -/
def Ints (k : IntKind) (w : World) (A : Option Addr) (n : Nat) (zs : List Int) : Prop :=
  zs.length = n ∧ (0 < n → ∃ b o, A = some ⟨b, o, none⟩ ∧ b < w.heap.size ∧ ∀ i, i < n → w.cell? ⟨b, o + i, none⟩ = some (.int k (zs.getD i 0)))
theorem Ints.bel {k : IntKind} {w w' : World} {A : Option Addr} {n : Nat} {zs : List Int} (h : Ints k w A n zs) (hb : Bel w w') : Ints k w' A n zs :=
  ⟨h.1, fun hn => by
    obtain ⟨b, o, e, hlt, hc⟩ := h.2 hn
    exact ⟨b, o, e, Nat.lt_of_lt_of_le hlt (Below.size hb), fun i hi => (Below.cell (p := ⟨b, o + i, none⟩) hb hlt).trans (hc i hi)⟩⟩
theorem Ints.nil_ {k : IntKind} {w : World} {A : Option Addr} : Ints k w A 0 [] := ⟨rfl, fun h => absurd h (by omega)⟩

/-- The sum of the first k. -/
def sumTo (zs : List Int) : Nat → Int
  | 0 => 0
  | k + 1 => sumTo zs k + zs.getD k 0
/-- Words. -/
def Words (zs : List Int) : Prop := ∀ i, 0 ≤ zs.getD i 0 ∧ zs.getD i 0 ≤ 18446744073709551615
theorem words_of {zs : List Int} (h : ∀ z ∈ zs, 0 ≤ z ∧ z ≤ 18446744073709551615) : Words zs := by
  intro i
  rw [List.getD_eq_getElem?_getD]
  rcases Nat.lt_or_ge i zs.length with hi | hi
  · rw [List.getElem?_eq_getElem hi]
    exact h _ (List.getElem_mem hi)
  · rw [List.getElem?_eq_none hi]
    exact ⟨by decide, by decide⟩
theorem sumTo_le {zs : List Int} (h : Words zs) {k n : Nat} (hk : k ≤ n) : sumTo zs k ≤ sumTo zs n := by
  induction n with
  | zero => obtain rfl : k = 0 := by omega
            exact Int.le_refl _
  | succ n ih =>
    rcases Nat.lt_or_ge n k with hlt | hge
    · obtain rfl : k = n + 1 := by omega
      exact Int.le_refl _
    · exact Int.le_trans (ih hge) (by show _ ≤ sumTo zs n + zs.getD n 0; have := h n; omega)
theorem sumTo0 {zs : List Int} (h : Words zs) (k : Nat) : 0 ≤ sumTo zs k := sumTo_le h (Nat.zero_le k)

namespace Fix
set_option maxHeartbeats 400000 in
theorem fold (A : Option Addr) (n c : Nat) (zs : List Int) (w : World) (hi : Ints .u64 w A n zs) (hw : Words zs) (hn : n ≤ 9223372036854775807) :
    Calls Try.prog 47 #[.slice A n c, .func (.func 10) #[] #[]] w fun e w' => e = .returned (.tuple #[.int .u64 (amt (sumTo zs n)), .int .i64 (amtE (sumTo zs n))]) ∧ Bel w w' := by
  have HW := Lib.hid hw
  clear hw
  have HI := Lib.hid hi
  clear hi
  go_enter Try.func47, Try.ntmps47
  go_wp2_with fail
  go_loopw [4, 5, 10] (fun r e i wr => ∃ k : Nat, k ≤ n ∧ i = .int .i64 k ∧ r = .int .u64 (sumTo zs k) ∧ e = .int .i64 0 ∧ sumTo zs k ≤ 18446744073709551615 ∧ Bel w wr) (fun _ _ i _ => n - (intOf i).toNat)
  case atStart => exact ⟨0, Nat.zero_le _, rfl, rfl, rfl, by show (0 : Int) ≤ _; decide, Bel.refl _⟩
  case round =>
    obtain ⟨k, hk, rfl, rfl, rfl, hs, hb⟩ := hrel
    have hs0 := sumTo0 HW.out k
    by_cases hlt : k < n
    · obtain ⟨b, o, rfl, hbw, hc⟩ := (HI.out.bel hb).2 (by omega)
      have hck := hc k hlt
      obtain ⟨z0, z1⟩ := HW.out k
      clear hc
      have hcell : wr.cell? ⟨b, o + k, none⟩ = some (.int .u64 (zs.getD k 0)) := hck
      clear hck
      generalize hz : zs.getD k 0 = z at *
      have HZ := Lib.hid hz
      clear hz
      have hstep : sumTo zs (k + 1) = sumTo zs k + z := by rw [← HZ.out]; rfl
      rcases Int.lt_or_le 18446744073709551615 (sumTo zs k + z) with hgt | hle
      · obtain ⟨e1, e2⟩ := amt_no hgt
        have hend : sumTo zs (k + 1) ≤ sumTo zs n := sumTo_le HW.out (by omega)
        obtain ⟨e3, e4⟩ := amt_no (P := sumTo zs n) (by omega)
        have E3 := Lib.hid e3
        have E4 := Lib.hid e4
        clear e3 e4 hend hstep
        go_wp2_with fail
        refine (add _ _ _ hs0 hs z0 z1).mono ?_
        rintro e w' ⟨rfl, hb'⟩
        go_wp2
        go_ret2
        exact ⟨by rw [E3.out, E4.out]; rfl, hb.trans hb'⟩
      · obtain ⟨e1, e2⟩ := amt_of hle
        have HS := Lib.hid hstep
        clear hstep
        go_wp2_with fail
        refine (add _ _ _ hs0 hs z0 z1).mono ?_
        rintro e w' ⟨rfl, hb'⟩
        go_wp2
        go_roundw
        case rel => exact ⟨k + 1, by omega, by go_num, by rw [HS.out], rfl, by rw [HS.out]; exact hle, hb.trans hb'⟩
        case measure => simp [intOf]; omega
    · obtain rfl : k = n := by omega
      obtain ⟨e3, e4⟩ := amt_of hs
      have E3 := Lib.hid e3
      have E4 := Lib.hid e4
      clear e3 e4
      go_wp2
      go_ret2
      exact ⟨by rw [E3.out, E4.out]; rfl, hb⟩

theorem sum (A : Option Addr) (n c : Nat) (zs : List Int) (w : World) (hi : Ints .u64 w A n zs) (hw : Words zs) (hn : n ≤ 9223372036854775807) :
    Calls Try.prog 17 #[.slice A n c] w fun e w' => e = .returned (.tuple #[.int .u64 (amt (sumTo zs n)), .int .i64 (amtE (sumTo zs n))]) ∧ Bel w w' := by
  have F := Lib.hid (fun w' (h : Ints .u64 w' A n zs) => fold A n c zs w' h hw hn)
  have HI := Lib.hid hi
  clear hi
  go_enter Try.func17, Try.ntmps17
  go_wp2_with fail
  refine (F.out _ HI.out).mono ?_
  rintro e w' ⟨rfl, hb⟩
  go_wp2
  go_ret2
  exact ⟨rfl, hb⟩
end Fix
end Go.Proofs.Ytdngpplmkghdhaa
