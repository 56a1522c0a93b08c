/-
  What the reference's height, last, Live and sum tell. Conditions: at most a billion entries; the Balances are words.
-/
import Derived.Test.YtdpompponngmdaaGQu4
import Derived.Test.YtdpompponngmdaaGRef
namespace Go.Proofs.Ytdpompponngmdaa
open Go.RowKit Go.Shelf
set_option linter.unusedVariables false
set_option linter.unusedSimpArgs false
namespace Qu
open Kk Pm

set_option maxHeartbeats 1000000 in
theorem heightR (x : Int) (w : World) : Calls Try.prog 52 #[.int .i64 x] w fun e w' => e = .returned (.bool (decide (1 ≤ x ∧ x ≤ 4294967296))) ∧ w = w' := by
  go_enter Try.func52, Try.ntmps52
  by_cases h : 1 ≤ x
  · by_cases h2 : x ≤ 4294967296
    · have hd : decide (1 ≤ x ∧ x ≤ 4294967296) = true := decide_eq_true ⟨h, h2⟩
      rw [hd]
      go_wp2
      go_ret
      exact ⟨rfl, rfl⟩
    · have hd : decide (1 ≤ x ∧ x ≤ 4294967296) = false := decide_eq_false (by omega)
      rw [hd]
      go_wp2
      go_ret
      exact ⟨rfl, rfl⟩
  · have hd : decide (1 ≤ x ∧ x ≤ 4294967296) = false := decide_eq_false (by omega)
    rw [hd]
    go_wp2
    go_ret
    exact ⟨rfl, rfl⟩
set_option maxHeartbeats 2000000 in
theorem lastR (A : Option Addr) (k cp : Nat) (m : List E8) (w : World) (hi : Rw.RS eR w A k cp m) (hk : k ≤ 1000000000) :
    Calls Try.prog 46 #[.slice A k cp] w fun e w' => e = .returned (.int .i64 (bef 0 m k)) ∧ w = w' := by
  by_cases hz : k = 0
  · subst hz
    rw [show bef 0 m 0 = 0 from rfl]
    clear hi
    go_enter Try.func46, Try.ntmps46
    go_wp2_with fail
    go_ret
    exact ⟨rfl, rfl⟩
  · obtain ⟨j, rfl⟩ : ∃ j, k = j + 1 := ⟨k - 1, by omega⟩
    obtain ⟨⟨t1, t2, t3, t4, t5, t6, t7, t8⟩, ht⟩ := hi.get (Nat.lt_succ_self j)
    obtain ⟨bb, qq, rfl, _, hrow⟩ := hi.at (Nat.lt_succ_self j) ht
    obtain ⟨c0, c1, c2, c3, c4, c5, c6, c7⟩ := rng8 (show w.rangeAt bb (qq + j * 8) [.int .i64 t1, .int .i64 t2, .int .i64 t3, .int .i64 t4, .int .i64 t5, .int .i64 t6, .int .u64 t7, .int .u64 t8] from hrow)
    rw [show bef 0 m (j + 1) = t6 from bef_succ ht]
    have hjw : IntKind.i64.wrap (((j + 1 : Nat) : Int) - 1) = j := by rw [show ((j + 1 : Nat) : Int) - 1 = j by omega]; exact IntWalk.i64_in _ (by omega)
    have hjw2 : IntKind.i64.wrap (((j : Int) + 1) - 1) = j := by rw [show (j : Int) + 1 - 1 = j by omega]; exact IntWalk.i64_in _ (by omega)
    have hjw3 : IntKind.i64.wrap (j : Int) = j := IntWalk.i64_in _ (by omega)
    have hj5 : ¬ ((j : Int) + 1 ≤ j) := by omega
    have hj0 : (0 : Int) ≤ j := by omega
    have hj4 : (j : Int) < ((j + 1 : Nat) : Int) := by omega
    have hje : (((j + 1 : Nat) : Int) == 0) = false := beq_eq_false_iff_ne.2 (by omega)
    have hje2 : ((j : Int) + 1 == 0) = false := beq_eq_false_iff_ne.2 (by omega)
    clear hi hrow ht hz c0 c1 c2 c3 c4 c6 c7
    go_enter Try.func46, Try.ntmps46
    go_wp2_with fail
    go_ret
    exact ⟨rfl, rfl⟩
set_option maxRecDepth 100000 in
set_option maxHeartbeats 4000000 in
theorem liveR (A : Option Addr) (n c : Nat) (l : List E8) (o' v' : Int) (w : World) (hi : Rw.RS eR w A n c l) (hn : n ≤ 1000000000) :
    Calls Try.prog 28 #[.slice A n c, .int .i64 o', .int .i64 v'] w fun e w' => e = .returned (.int .i64 (live l o' v')) ∧ Bel w w' := by
  have HR := Lib.hid hi
  have HFIN := Lib.hid (show l.take n = l by rw [← hi.len]; exact List.take_length)
  clear hi
  go_enter Try.func28, Try.ntmps28
  go_wp2_with fail
  go_loopw [7, 8] (fun s7 s8 wr => ∃ k : Nat, k ≤ n ∧ s8 = .int .i64 k ∧ s7 = .int .i64 (live (l.take k) o' v') ∧ Hid (Bel w wr)) (fun _ s8 _ => n - (intOf s8).toNat)
  case atStart => exact ⟨0, Nat.zero_le _, rfl, rfl, Lib.hid (Bel.refl _)⟩
  case round =>
    obtain ⟨k, hk, rfl, rfl, hh⟩ := hrel
    by_cases hlt : k < n
    · obtain ⟨⟨r1, r2, r3, r4, r5, r6, r7, r8⟩, hr⟩ := HR.out.get hlt
      obtain ⟨b, q, rfl, hb, hrow⟩ := (HR.out.bel hh.out).at hlt hr
      have HNX := Lib.hid (live_take hr o' v')
      have HLE := Lib.hid (show live (l.take k) o' v' ≤ k by have := live_le (l.take k) o' v'; rw [List.length_take] at this; omega)
      have hlt3 : (k : Int) < n := by omega
      have hlt0 : (0 : Int) ≤ k := by omega
      obtain ⟨c0, c1, c2, c3, c4, c5, c6, c7⟩ := rng8 (show wr.rangeAt b (q + k * 8) [.int .i64 r1, .int .i64 r2, .int .i64 r3, .int .i64 r4, .int .i64 r5, .int .i64 r6, .int .u64 r7, .int .u64 r8] from hrow)
      clear hr hrow hb c2 c3 c4 c5 c6 c7
      obtain ⟨t, ht⟩ : ∃ t, live (l.take k) o' v' = t := ⟨_, rfl⟩
      rw [ht] at HNX HLE ⊢
      clear ht
      have htw : IntKind.i64.wrap ((t : Int) + 1) = t + 1 := IntWalk.i64_in _ (by have := HLE.out; omega)
      by_cases h1 : r1 = o'
      · by_cases h2 : r2 = v'
        · have HY := Lib.hid (show ((t : Int) + 1) = (live (l.take (k + 1)) o' v' : Nat) by rw [HNX.out, if_pos (show isOf o' v' (r1, r2, r3, r4, r5, r6, r7, r8) = true from decide_eq_true ⟨h1, h2⟩)]; omega)
          have e1 : (r1 == o') = true := beq_iff_eq.2 h1
          have e2 : (r2 == v') = true := beq_iff_eq.2 h2
          clear h1 h2
          go_wp2_with fail
          go_roundw
          case rel => exact ⟨k + 1, by omega, by go_num, by rw [← HY.out], hh⟩
          case measure => simp [intOf]; omega
        · have HY := Lib.hid (show (t : Int) = (live (l.take (k + 1)) o' v' : Nat) by rw [HNX.out, if_neg (by rw [show isOf o' v' (r1, r2, r3, r4, r5, r6, r7, r8) = false from decide_eq_false fun h' => h2 h'.2]; decide)]; omega)
          have e1 : (r1 == o') = true := beq_iff_eq.2 h1
          have e2 : (r2 == v') = false := beq_eq_false_iff_ne.2 h2
          clear h1 h2
          go_wp2_with fail
          go_roundw
          case rel => exact ⟨k + 1, by omega, by go_num, by rw [← HY.out], hh⟩
          case measure => simp [intOf]; omega
      · have HY := Lib.hid (show (t : Int) = (live (l.take (k + 1)) o' v' : Nat) by rw [HNX.out, if_neg (by rw [show isOf o' v' (r1, r2, r3, r4, r5, r6, r7, r8) = false from decide_eq_false fun h' => h1 h'.1]; decide)]; omega)
        have e1 : (r1 == o') = false := beq_eq_false_iff_ne.2 h1
        clear h1
        go_wp2_with fail
        go_roundw
        case rel => exact ⟨k + 1, by omega, by go_num, by rw [← HY.out], hh⟩
        case measure => simp [intOf]; omega
    · obtain rfl : k = n := by omega
      have hlt3 : ¬ (k : Int) < k := by omega
      rw [HFIN.out]
      go_wp2_with fail
      go_ret
      exact ⟨rfl, hh.out⟩
end Qu
end Go.Proofs.Ytdpompponngmdaa
