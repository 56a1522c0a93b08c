/-
  What codec.encoding answers in this program: an iterator over the bytes of a word, for every loop body that keeps what lay below.
  Conditions: the word is from 0 to 2^64 - 1.
-/
import Derived.RangeFuncNested
import Derived.RangeFuncBound
import Derived.RangeFuncCalls
import Derived.RangeFuncLeaves
import Derived.RangeFuncBox
import Derived.Shelf.Abstract
import Derived.Shelf.RegionOpen
import Derived.WalkKit
import Derived.OwnWalkIn
import Derived.TacticsInMore
import Derived.LoopNIn
import Derived.LoopIn
import Derived.Maps.AppendAt
import Derived.Lib.Hide
import Derived.Test.YtpohcdfmkcfonaaGreatDoorGEnc
import Derived.Test.YtpohcdfmkcfonaaGreatDoorChecked
namespace Go.Proofs.YtpohcdfmkcfonaaGreatDoor
open Go.RowKit Go.Shelf
set_option linter.unusedVariables false
attribute [local go_sem] Oper.semAt_some
namespace Cd

set_option maxRecDepth 100000 in
set_option maxHeartbeats 1000000 in
theorem yields (F : Fence) (n : Nat) (h6 : F.fn 75) (hro : F.round = none) (hn : 1 ≤ n) (l Bn n₀ : Nat) (x : Int) (x0 : 0 ≤ x) (x1 : x ≤ 18446744073709551615) (J Jx : List Int → World → Prop)
    (hY : ∀ pre z W, J pre W → pre.length < (enc x).length → YieldAt F (n - 1) Tryz.prog l #[.int .u8 z] W fun e W' =>
      (e = .returned (.bool true) ∧ J (pre ++ [z]) W' ∧ Below n₀ W W') ∨ (e = .returned (.bool false) ∧ Jx (pre ++ [z]) W'))
    (W : World) (hBn : W.cell? ⟨Bn, 0, none⟩ = some (.int .u64 x)) (h0 : J [] W) :
    CallsIn F n Tryz.prog 75 #[.func (.yield l) #[] #[], .pointer (some ⟨Bn, 0, none⟩)] W fun e W' => (∃ v, e = .returned v) ∧
      ((∃ ys, ys = enc x ∧ J ys W') ∨ (∃ pre, pre <+: enc x ∧ Jx pre W')) := by
  refine callsIn_of_wp Tryz.func75 rfl h6 ?_ hro
  simp only [Tryz.ntmps75, List.size_toArray, List.length_cons, List.length_nil, Nat.reduceAdd, Nat.reduceSub, Array.replicate_succ, Array.replicate_zero, List.push_toArray, List.append_toArray, List.nil_append, List.cons_append]
  gi_wp2
  gi_loopw [3] (fun r wr => ∃ (pre : List Int) (f : Nat) (M : Int), r = .int .u64 M ∧ 0 ≤ M ∧ M < top f ∧ f ≤ 9 ∧ enc x = pre ++ encN f M ∧ J pre wr)
    (fun r wr => (intOf r).toNat)
  case atStart =>
    exact ⟨[], 9, x, rfl, x0, by rw [top9]; omega, Nat.le_refl _, rfl, h0⟩
  case round =>
    obtain ⟨pre, f, M, rfl, m0, m1, hf, hx, hJs⟩ := hrel
    have hm : M ≤ 18446744073709551615 := by
      have h := top_mono hf
      rw [top9] at h
      omega
    rcases Int.lt_or_le M 128 with hlt | hge
    · rw [encN_small _ hlt] at hx
      obtain ⟨fn, tmps, assign, body, hy, hR⟩ := hY pre M wr hJs (by rw [hx]; simp)
      have E : M % 256 = M := by omega
      have HX := Lib.hid hx
      clear hx
      gi_wp2_with fail
      refine hR.mono ?_
      rintro e W3 (⟨rfl, hJ3, hk3⟩ | ⟨rfl, hJx3⟩)
      · gi_wp2
        go_end0
        exact ⟨⟨_, rfl⟩, .inl ⟨_, HX.out.symm, hJ3⟩⟩
      · gi_wp2
        go_end0
        exact ⟨⟨_, rfl⟩, .inr ⟨pre ++ [M], by rw [HX.out]; exact List.prefix_refl _, hJx3⟩⟩
    · obtain ⟨f, rfl⟩ : ∃ g, f = g + 1 := by
        cases f with
        | zero => have : top 0 = 2 := rfl; omega
        | succ g => exact ⟨g, rfl⟩
      have ht : top (f + 1) = 128 * top f := rfl
      rw [encN_great _ hge] at hx
      obtain ⟨fn, tmps, assign, body, hy, hR⟩ := hY pre (M % 128 + 128) wr hJs (by rw [hx]; simp)
      have E : bits .or .u8 (M % 256) 128 = M % 128 + 128 := by rw [or128 (by omega) (by omega)]; omega
      have h1 : M / 128 < top f := by omega
      have HX := Lib.hid hx
      have HT := Lib.hid h1
      clear hx ht m1 h1
      gi_wp2_with fail
      refine hR.mono ?_
      rintro e W3 (⟨rfl, hJ3, hk3⟩ | ⟨rfl, hJx3⟩)
      · gi_wp2
        go_roundw
        case rel => exact ⟨pre ++ [M % 128 + 128], f, M / 128, rfl, by omega, HT.out, by omega, by rw [HX.out]; simp, hJ3⟩
        case measure => simp [intOf]; omega
      · gi_wp2
        refine bodyPost_ret (results_none rfl _ _ _) rfl ?_
        exact ⟨⟨_, rfl⟩, .inr ⟨pre ++ [M % 128 + 128], by rw [HX.out]; exact ⟨encN f (M / 128), by simp⟩, hJx3⟩⟩

set_option maxHeartbeats 1000000 in
theorem maker (F : Fence) (n : Nat) (h5 : F.fn 53) (hro : F.round = none) (x : Int) (w : World) :
    CallsIn F n Tryz.prog 53 #[.int .u64 x] w fun e w' => e = .returned (.func (.func 75) #[] #[.pointer (some ⟨w.heap.size, 0, none⟩)]) ∧ w' = w.alloc (.cells #[.int .u64 x] 22) := by
  refine callsIn_of_wp Tryz.func53 rfl h5 ?_ hro
  simp only [Tryz.ntmps53, List.size_toArray, List.length_cons, List.length_nil, Nat.reduceAdd, Nat.reduceSub, Array.replicate_succ, Array.replicate_zero, List.push_toArray, List.append_toArray, List.nil_append, List.cons_append]
  gi_wp2
  go_ret
  exact ⟨rfl, rfl⟩

theorem stops (F : Fence) (n : Nat) (h6 : F.fn 75) (hro : F.round = none) (hn : 1 ≤ n) (Bn n₀ : Nat) (x : Int) (x0 : 0 ≤ x) (x1 : x ≤ 18446744073709551615) (w : World) (hBn : Bn < w.heap.size)
    (hc : w.cell? ⟨Bn, 0, none⟩ = some (.int .u64 x)) :
    SeqStopsK F n Tryz.prog 75 #[.pointer (some ⟨Bn, 0, none⟩)] (fun z : Int => #[Value.int .u8 z]) (Below n₀) (fun ys => ys = enc x) (fun pre => pre <+: enc x) (enc x).length w := fun l J Jx W hW _ _ hY h0 =>
  yields F n h6 hro hn l Bn n₀ x x0 x1 J Jx hY W ((hW.cell (p := ⟨Bn, 0, none⟩) hBn).trans hc) h0
end Cd
end Go.Proofs.YtpohcdfmkcfonaaGreatDoor
