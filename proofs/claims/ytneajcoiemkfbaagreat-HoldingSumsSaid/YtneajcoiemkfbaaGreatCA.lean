/-
  Texts of this claim, put together: Iter, Put, Bel0, Base, Get. What each one says, and under which conditions, stands ahead of it.
-/
import Derived.RangeFuncNested
import Derived.RangeFuncBound
import Derived.RangeFuncCalls
import Derived.RangeFuncLeaves
import Derived.RangeFuncBox
import Derived.Shelf.Abstract
import Derived.Shelf.RegionOpen
import Derived.WalkKit
import Derived.OwnWalkIn
import Derived.TacticsInMore
import Derived.LoopNIn
import Derived.LoopIn
import Derived.Maps.AppendAt
import Derived.Lib.Hide
import Derived.BigRegion
import Derived.Below
import Derived.Laws.AppendOwn
import Derived.StillTailTactics
import Derived.BigQuiet
import Derived.Deep.QuietTactic
import Derived.IntWalk
import Derived.Test.YtneajcoiemkfbaaGreatGEnc
import Derived.Test.YtneajcoiemkfbaaGreatChecked

section
/-
  What codec.encoding answers in this program: an iterator over the bytes of a word, for every loop body that keeps what lay below.
  Conditions: the word is from 0 to 2^64 - 1.
-/
namespace Go.Proofs.YtneajcoiemkfbaaGreat
open Go.RowKit Go.Shelf
set_option linter.unusedVariables false
attribute [local go_sem] Oper.semAt_some
namespace Cd

set_option maxRecDepth 100000 in
set_option maxHeartbeats 1000000 in
theorem yields (F : Fence) (n : Nat) (h6 : F.fn 214) (hro : F.round = none) (hn : 1 ≤ n) (l Bn n₀ : Nat) (x : Int) (x0 : 0 ≤ x) (x1 : x ≤ 18446744073709551615) (J Jx : List Int → World → Prop)
    (hY : ∀ pre z W, J pre W → pre.length < (enc x).length → YieldAt F (n - 1) Tryz.prog l #[.int .u8 z] W fun e W' =>
      (e = .returned (.bool true) ∧ J (pre ++ [z]) W' ∧ Below n₀ W W') ∨ (e = .returned (.bool false) ∧ Jx (pre ++ [z]) W'))
    (W : World) (hBn : W.cell? ⟨Bn, 0, none⟩ = some (.int .u64 x)) (h0 : J [] W) :
    CallsIn F n Tryz.prog 214 #[.func (.yield l) #[] #[], .pointer (some ⟨Bn, 0, none⟩)] W fun e W' => (∃ v, e = .returned v) ∧
      ((∃ ys, ys = enc x ∧ J ys W') ∨ (∃ pre, pre <+: enc x ∧ Jx pre W')) := by
  refine callsIn_of_wp Tryz.func214 rfl h6 ?_ hro
  simp only [Tryz.ntmps214, List.size_toArray, List.length_cons, List.length_nil, Nat.reduceAdd, Nat.reduceSub, Array.replicate_succ, Array.replicate_zero, List.push_toArray, List.append_toArray, List.nil_append, List.cons_append]
  gi_wp2
  gi_loopw [3] (fun r wr => ∃ (pre : List Int) (f : Nat) (M : Int), r = .int .u64 M ∧ 0 ≤ M ∧ M < top f ∧ f ≤ 9 ∧ enc x = pre ++ encN f M ∧ J pre wr)
    (fun r wr => (intOf r).toNat)
  case atStart =>
    exact ⟨[], 9, x, rfl, x0, by rw [top9]; omega, Nat.le_refl _, rfl, h0⟩
  case round =>
    obtain ⟨pre, f, M, rfl, m0, m1, hf, hx, hJs⟩ := hrel
    have hm : M ≤ 18446744073709551615 := by
      have h := top_mono hf
      rw [top9] at h
      omega
    rcases Int.lt_or_le M 128 with hlt | hge
    · rw [encN_small _ hlt] at hx
      obtain ⟨fn, tmps, assign, body, hy, hR⟩ := hY pre M wr hJs (by rw [hx]; simp)
      have E : M % 256 = M := by omega
      have HX := Lib.hid hx
      clear hx
      gi_wp2_with fail
      refine hR.mono ?_
      rintro e W3 (⟨rfl, hJ3, hk3⟩ | ⟨rfl, hJx3⟩)
      · gi_wp2
        go_end0
        exact ⟨⟨_, rfl⟩, .inl ⟨_, HX.out.symm, hJ3⟩⟩
      · gi_wp2
        go_end0
        exact ⟨⟨_, rfl⟩, .inr ⟨pre ++ [M], by rw [HX.out]; exact List.prefix_refl _, hJx3⟩⟩
    · obtain ⟨f, rfl⟩ : ∃ g, f = g + 1 := by
        cases f with
        | zero => have : top 0 = 2 := rfl; omega
        | succ g => exact ⟨g, rfl⟩
      have ht : top (f + 1) = 128 * top f := rfl
      rw [encN_great _ hge] at hx
      obtain ⟨fn, tmps, assign, body, hy, hR⟩ := hY pre (M % 128 + 128) wr hJs (by rw [hx]; simp)
      have E : bits .or .u8 (M % 256) 128 = M % 128 + 128 := by rw [or128 (by omega) (by omega)]; omega
      have h1 : M / 128 < top f := by omega
      have HX := Lib.hid hx
      have HT := Lib.hid h1
      clear hx ht m1 h1
      gi_wp2_with fail
      refine hR.mono ?_
      rintro e W3 (⟨rfl, hJ3, hk3⟩ | ⟨rfl, hJx3⟩)
      · gi_wp2
        go_roundw
        case rel => exact ⟨pre ++ [M % 128 + 128], f, M / 128, rfl, by omega, HT.out, by omega, by rw [HX.out]; simp, hJ3⟩
        case measure => simp [intOf]; omega
      · gi_wp2
        refine bodyPost_ret (results_none rfl _ _ _) rfl ?_
        exact ⟨⟨_, rfl⟩, .inr ⟨pre ++ [M % 128 + 128], by rw [HX.out]; exact ⟨encN f (M / 128), by simp⟩, hJx3⟩⟩

set_option maxHeartbeats 1000000 in
theorem maker (F : Fence) (n : Nat) (h5 : F.fn 195) (hro : F.round = none) (x : Int) (w : World) :
    CallsIn F n Tryz.prog 195 #[.int .u64 x] w fun e w' => e = .returned (.func (.func 214) #[] #[.pointer (some ⟨w.heap.size, 0, none⟩)]) ∧ w' = w.alloc (.cells #[.int .u64 x] 32) := by
  refine callsIn_of_wp Tryz.func195 rfl h5 ?_ hro
  simp only [Tryz.ntmps195, List.size_toArray, List.length_cons, List.length_nil, Nat.reduceAdd, Nat.reduceSub, Array.replicate_succ, Array.replicate_zero, List.push_toArray, List.append_toArray, List.nil_append, List.cons_append]
  gi_wp2
  go_ret
  exact ⟨rfl, rfl⟩

theorem stops (F : Fence) (n : Nat) (h6 : F.fn 214) (hro : F.round = none) (hn : 1 ≤ n) (Bn n₀ : Nat) (x : Int) (x0 : 0 ≤ x) (x1 : x ≤ 18446744073709551615) (w : World) (hBn : Bn < w.heap.size)
    (hc : w.cell? ⟨Bn, 0, none⟩ = some (.int .u64 x)) :
    SeqStopsK F n Tryz.prog 214 #[.pointer (some ⟨Bn, 0, none⟩)] (fun z : Int => #[Value.int .u8 z]) (Below n₀) (fun ys => ys = enc x) (fun pre => pre <+: enc x) (enc x).length w := fun l J Jx W hW _ _ hY h0 =>
  yields F n h6 hro hn l Bn n₀ x x0 x1 J Jx hY W ((hW.cell (p := ⟨Bn, 0, none⟩) hBn).trans hc) h0
end Cd
end Go.Proofs.YtneajcoiemkfbaaGreat
end

section
/-
  What codec.Put and codec.Size answer in this program: the bytes of a word, and how many they are.
  Conditions: the word is from 0 to 2^64 - 1.
-/
namespace Go.Proofs.YtneajcoiemkfbaaGreat
open Go.RowKit Go.Shelf
set_option linter.unusedVariables false
attribute [local go_sem] Oper.semAt_some
theorem Tryz.info_u8 : (Tryz.prog.info? 5).map (fun i => (i.zero, i.size, i.bytes)) = some (some (.int .u8 0), 1, 1) := by kernel_rfl
namespace Cd

set_option maxRecDepth 100000 in
set_option maxHeartbeats 2000000 in
theorem put_in (F : Fence) (n : Nat) (h3 : F.fn 158) (h4 : F.fn 195) (h5 : F.fn 214) (hro : F.round = none) (hn : 3 ≤ n) (x : Int) (x0 : 0 ≤ x) (x1 : x ≤ 18446744073709551615) (w : World) :
    CallsIn F n Tryz.prog 158 #[.int .u64 x] w fun e W' => ∃ v, e = .returned v ∧ W'.ownsRow w.heap.size 5 1 v (enc x).length ((enc x).map (Value.int .u8)) ∧ Below w.heap.size w W' := by
  have h1 : 1 ≤ n := by omega
  have hl := (enc_len x).2
  obtain ⟨i0, hi, hz0, hz1, hz2⟩ := info_parts Tryz.info_u8
  refine callsIn_of_wp_marks Tryz.func158 rfl h3 ?_ hro
  simp only [Tryz.ntmps158, List.size_toArray, List.length_cons, List.length_nil, Nat.reduceAdd, Nat.reduceSub, Array.replicate_succ, Array.replicate_zero, List.push_toArray, List.append_toArray, List.nil_append, List.cons_append]
  gi_wp2_with (first | (gi_at_call 195; refine (maker F (n - 1) h4 hro _ _).mono ?_; rintro e w' ⟨rfl, rfl⟩) | (gi_at_make; refine wpListIn_make_own _ rfl _ _ 63 rfl w.heap.size 5 i0 (.int .u8 0) 1 Tryz.underlying63 hi hz0 hz1 .i64 .i64 10 10 rfl rfl rfl (by rw [hz2]; omega) (by unfold maxLen; omega) (Nat.le_refl _) ?_; intro w1 hown1 hgrow1))
  have hlt1 : w.heap.size < w1.heap.size := (hown1.lt _ rfl).2
  have bO := Boxed.new w1 63 (.slice (some ⟨w.heap.size, 0, none⟩) 0 10)
  have bN := Boxed.new (w1.alloc (.cells #[.slice (some ⟨w.heap.size, 0, none⟩) 0 10] 63)) 32 (.int .u64 x)
  rw [World.size_alloc] at bN
  have hB1 : Below w.heap.size w w1 := (Below.refl _ w).grown hgrow1 (Nat.le_refl _) (by intro k hk; cases hk)
  have hB0 : Below w.heap.size w ((w1.alloc (.cells #[.slice (some ⟨w.heap.size, 0, none⟩) 0 10] 63)).alloc (.cells #[.int .u64 x] 32)) := (hB1.alloc (by omega) _).alloc (by simp; omega) _
  refine wpIn_rangeFunc_ownG hro h1 (gf := 214) (lb := #[.pointer (some ⟨w1.heap.size + 1, 0, none⟩)]) rfl h5 (enters_of Tryz.func214 (by kernel_rfl) rfl)
    (stops F (n - 1) h5 hro (by omega) (w1.heap.size + 1) w.heap.size x x0 x1 _ (by simp) bN.cell) belowK_t (belowK_b (by simp; omega)) (Below.refl _ _) (fun _ => rfl)
    (fun pre W => (∃ v, Boxed W w1.heap.size 63 v ∧ W.ownsRow w.heap.size 5 1 v pre.length (pre.map (Value.int .u8)) ∧ True) ∧ Below w.heap.size w W)
    (fun _ _ _ => False)
    (OwnFrom.and (Own.from (holdsRow_own w.heap.size w1.heap.size 63 5 1 (fun pre : List Int => pre.length) (fun pre : List Int => pre.map (Value.int .u8)) (fun _ _ => True)) _) (ownFrom_below (Nat.le_refl _) (by simp; omega)))
    (fun _ _ _ _ _ hs _ _ => hs)
    ⟨⟨_, bO.alloc _, (hown1.alloc _).alloc _, trivial⟩, hB0⟩
    (fun z => { tmps := #[.int .u64 x, undef, .slice none 0 0, .pointer (some ⟨w1.heap.size, 0, none⟩), .int .u8 z, .slice (some ⟨w.heap.size, 0, none⟩) 0 10, .int .u64 x, .func (.func 214) #[] #[.pointer (some ⟨w1.heap.size + 1, 0, none⟩)], .int .u8 z, undef, undef, undef, undef, undef], defers := [] }) ?assign ?body ?done ?stop
  case assign =>
    intro l x W K hK
    gi_wp2
    exact hK
  case body =>
    rintro l pre z W ⟨⟨v, hv, hrow, _⟩, hB⟩ hlt
    have hc := hv.cell
    gi_wp2_with (gi_at_builtin; refine wpListIn_append_own _ rfl _ _ 63 rfl w.heap.size 5 i0 (.int .u8 0) 1 1 Tryz.underlying63 hi hz0 hz1 hz2 rfl (by decide) _ _ _ rfl (hrow.alloc _) ⟨W.heap.size, 0, none⟩ 1 1 [.int .u8 z] rfl rfl (cell_one_new _ _ _) (by simp [Value.oneCell']) (by unfold maxLen; omega) (by omega) (by have := hB.size; simp; omega) ?_; intro v' w2 hown' hgrow _; obtain ⟨g', cap', rfl⟩ := ownsRow_succ hown'; obtain ⟨hv1, hv2, hr2, hk2, hb2⟩ := hv.appended (by decide) hrow hB.size (by omega) hown' hgrow; have hc1 := hv1.cell; have hf1 := hv1.frozen)
    exact ⟨hk2.from _, hb2, ⟨_, hv2, by simpa using hr2, trivial⟩, hB.trans hb2⟩
  case done =>
    rintro D ys W hD rfl ⟨⟨v, hv, hrow, _⟩, hB⟩ hK
    have hc := hv.cell
    gi_wp2
    refine ⟨by simp, .inl ⟨_, _, rfl, run_takeDeferred hK, ?_⟩⟩
    exact ⟨_, results_tmp rfl _ _ _, v, rfl, ownsRow_putObj hrow _ hK rfl, hB.trans (belowK_b (w := w) (Nat.le_refl _) W D _ _ (by simp at hD; omega) hK rfl rfl)⟩
  case stop =>
    rintro D c pre W _ _ h _
    exact h.elim

theorem put (x : Int) (w : World) (x0 : 0 ≤ x) (x1 : x ≤ 18446744073709551615) :
    Calls Tryz.prog 158 #[.int .u64 x] w fun e W' => ∃ v, e = .returned v ∧ W'.ownsRow w.heap.size 5 1 v (enc x).length ((enc x).map (Value.int .u8)) ∧ Below w.heap.size w W' :=
  callsIn_wide.1 (put_in Fence.wide 3 trivial trivial trivial rfl (Nat.le_refl _) x x0 x1 w)

end Cd
end Go.Proofs.YtneajcoiemkfbaaGreat
end

section
/-
  What a walk says of memory: what was there is as it was; a slice reads as numbers. No condition.
-/
namespace Go.Proofs.YtneajcoiemkfbaaGreat
open Go.RowKit Go.Shelf
set_option linter.unusedVariables false

/-- What was there is as it was. -/
def Bel (a w : World) : Prop := Below a.heap.size a w
theorem Bel.refl (a : World) : Bel a a := Below.refl _ _
theorem Bel.alloc {a w : World} (h : Bel a w) (o : Obj) : Bel a (w.alloc o) := Below.alloc h (Below.size h) o
theorem Bel.drew {a w : World} (h : Bel a w) : Bel a w.drew := Below.drew h
theorem Bel.drewN {a w : World} (h : Bel a w) (n : Nat) : Bel a (w.drewN n) := ⟨h.os, h.tape, h.output, h.size, h.block⟩
theorem Bel.trans {a b c : World} (h : Bel a b) (k : Bel b c) : Bel a c := Below.trans h (Below.mono k (Below.size h))
theorem Bel.set {a w : World} (h : Bel a w) {p : Addr} (hp : a.heap.size ≤ p.block) (u : Value) : Bel a (w.setCell p u) := Below.setCell h hp u
theorem Bel.facts {W w1 : World} (hb : Bel W w1) : (∀ b o, b < W.heap.size → w1.cell? ⟨b, o, none⟩ = W.cell? ⟨b, o, none⟩) ∧ (∀ b o, b < W.heap.size → w1.frozen? ⟨b, o, none⟩ = W.frozen? ⟨b, o, none⟩) :=
  ⟨fun b o h => Below.cell (p := ⟨b, o, none⟩) hb h, fun b o h => Below.frozen (p := ⟨b, o, none⟩) hb h⟩
theorem Bel.grown {a w w' : World} {row : Option Nat} (h : Bel a w) (hg : w.grownBy w' row) (hr : ∀ k, row = some k → a.heap.size ≤ k) : Bel a w' := Below.grown h hg (Below.size h) hr

/-- A slice that reads as the numbers zs (its elements). -/
def Ints (k : IntKind) (w : World) (A : Option Addr) (n : Nat) (zs : List Int) : Prop :=
  zs.length = n ∧ (0 < n → ∃ b o, A = some ⟨b, o, none⟩ ∧ b < w.heap.size ∧ ∀ i, i < n → w.cell? ⟨b, o + i, none⟩ = some (.int k (zs.getD i 0)))
theorem Ints.bel {k : IntKind} {w w' : World} {A : Option Addr} {n : Nat} {zs : List Int} (h : Ints k w A n zs) (hb : Bel w w') : Ints k w' A n zs :=
  ⟨h.1, fun hn => by
    obtain ⟨b, o, e, hlt, hc⟩ := h.2 hn
    exact ⟨b, o, e, Nat.lt_of_lt_of_le hlt (Below.size hb), fun i hi => (Below.cell (p := ⟨b, o + i, none⟩) hb hlt).trans (hc i hi)⟩⟩
theorem Ints.nil_ {k : IntKind} {w : World} {A : Option Addr} : Ints k w A 0 [] := ⟨rfl, fun h => absurd h (by omega)⟩
end Go.Proofs.YtneajcoiemkfbaaGreat
end

section
/-
  What a walk says of memory: what was there is as it was; a slice reads as numbers; a part of a slice. No condition.
-/
namespace Go.Proofs.YtneajcoiemkfbaaGreat
open Go.RowKit Go.Shelf
set_option linter.unusedVariables false

theorem Ints.cell {k : IntKind} {w : World} {A : Option Addr} {n : Nat} {zs : List Int} (h : Ints k w A n zs) {i : Nat} (hi : i < n) : ∃ b o, A = some ⟨b, o, none⟩ ∧ b < w.heap.size ∧ w.cell? ⟨b, o + i, none⟩ = some (.int k (zs.getD i 0)) := by
  obtain ⟨b, o, e, hlt, hc⟩ := h.2 (by omega)
  exact ⟨b, o, e, hlt, hc i hi⟩

theorem getD_eq (zs : List Int) (i : Nat) (h : i < zs.length) : zs.getD i 0 = zs[i] := by
  rw [List.getD_eq_getElem?_getD, List.getElem?_eq_getElem h]; rfl
theorem getD_part (zs : List Int) (k m i : Nat) (h : i < m) : ((zs.drop k).take m).getD i 0 = zs.getD (k + i) 0 := by
  simp [List.getD_eq_getElem?_getD, h]

/-- A part of a slice. -/
theorem Ints.part {kd : IntKind} {w : World} {A : Option Addr} {n c : Nat} {zs : List Int} (h : Ints kd w A n zs) {k m : Nat} (hk : k + m ≤ n) (hc : n ≤ c) : Ints kd w (if c = k then A else A.map (·.add (k * 1))) m ((zs.drop k).take m) := by
  refine ⟨by have := h.1; simp; omega, fun hm => ?_⟩
  obtain ⟨b, o, rfl, hlt, hcell⟩ := h.2 (by omega)
  rw [if_neg (by omega)]
  refine ⟨b, o + k, ?_, hlt, fun i hi => ?_⟩
  · rw [Nat.mul_one]
    simp only [Option.map_some, Addr.add]
    by_cases h0 : k = 0
    · simp [h0]
    · simp [h0]
  · rw [getD_part _ _ _ _ hi, Nat.add_assoc]
    exact hcell (k + i) (by omega)

/-- A row of the call's own reads as numbers. -/
theorem ints_of_own {kd : IntKind} {w : World} {base : Nat} {e : TypeId} {v : Value} {n : Nat} {zs : List Int} (h : w.ownsRow base e 1 v n (zs.map (Value.int kd))) :
    ∃ A c, v = .slice A n c ∧ Ints kd w A n zs ∧ n ≤ c ∧ c ≤ maxLen := by
  have hl : zs.length = n := by simpa using h.1
  rcases h.2 with ⟨rfl, rfl⟩ | ⟨g, cap, cur, rfl, hb, hg, hnc, hm, r⟩
  · have : zs = [] := List.length_eq_zero_iff.1 hl
    subst this
    exact ⟨none, 0, rfl, Ints.nil_, Nat.le_refl _, Nat.zero_le _⟩
  · refine ⟨_, _, rfl, ⟨hl, fun hn => ⟨g, 0, rfl, ?_, fun i hi => ?_⟩⟩, hnc, hm⟩
    · exact (Array.getElem?_eq_some_iff.1 hg).1
    · have := h.cellAt i (by omega)
      rw [Nat.zero_add, this, List.getElem?_map, List.getElem?_eq_getElem (by omega), List.getD_eq_getElem?_getD, List.getElem?_eq_getElem (by omega)]
      rfl

theorem elem_u8 : Tryz.prog.elem 63 = 5 := by kernel_rfl
theorem slice_lh (A : Option Addr) (n c : Nat) (l h : Int) (w : World) (h0 : 0 ≤ l) (h1 : l ≤ h) (h2 : h ≤ c) :
    (Instr.slice 63 (.slice A n c) (some (.int .i64 l)) (some (.int .i64 h)) none).run Tryz.prog w = .ok (.slice (if c = l.toNat then A else A.map (·.add (l.toNat * 1))) (h.toNat - l.toNat) (c - l.toNat)) w := by
  rw [run_slice_lh (P := Tryz.prog) (w := w) (t := 63) (a := A) (len := n) (cap := c) (by rw [elem_u8]; exact Tryz.underlying63) .i64 .i64 l h h0 h1 h2]
  rw [elem_u8]
  simp [Tryz.sizeOf5, Result.andThen, sliced]
theorem slice_h (A : Option Addr) (n c : Nat) (h : Int) (w : World) (h0 : 0 ≤ h) (h2 : h ≤ c) :
    (Instr.slice 63 (.slice A n c) none (some (.int .i64 h)) none).run Tryz.prog w = .ok (.slice (if c = 0 then A else A.map (·.add (0 * 1))) (h.toNat - 0) (c - 0)) w := by
  rw [run_slice_h (P := Tryz.prog) (w := w) (t := 63) (a := A) (len := n) (cap := c) (by rw [elem_u8]; exact Tryz.underlying63) .i64 h h0 h2]
  rw [elem_u8]
  simp [Tryz.sizeOf5, Result.andThen, sliced]
end Go.Proofs.YtneajcoiemkfbaaGreat
end

section
/-
  What codec.Get answers in this program, of any bytes at any place: a number and the place behind it, or why there is none.
  Conditions: the slice reads as bytes, of at most 2^47 of them.
-/
namespace Go.Proofs.YtneajcoiemkfbaaGreat
open Go.RowKit Go.Shelf
set_option linter.unusedVariables false
namespace Cd

theorem low_ (z : Int) (w : World) : Calls Tryz.prog 216 #[.int .u8 z] w fun e w' => e = .returned (.bool (decide (z < 128))) ∧ w = w' := by
  go_enter Tryz.func216, Tryz.ntmps216
  go_wp2
  go_ret
  exact ⟨rfl, rfl⟩

/-- The first low byte, or -1. -/
def First (zs : List Int) (n : Nat) (r : Int) : Prop :=
  (r = -1 ∧ ∀ i, i < n → 128 ≤ zs.getD i 0) ∨ (∃ j : Nat, r = j ∧ j < n ∧ (∀ i, i < j → 128 ≤ zs.getD i 0) ∧ zs.getD j 0 < 128)

set_option maxHeartbeats 400000 in
theorem indexFunc (A : Option Addr) (n c : Nat) (zs : List Int) (r : Int) (w : World) (hi : Ints .u8 w A n zs) (hn : n ≤ 9223372036854775807) (hr : First zs n r) :
    Calls Tryz.prog 215 #[.slice A n c, .func (.func 216) #[] #[]] w fun e w' => e = .returned (.int .i64 r) ∧ w = w' := by
  have HI := Lib.hid hi
  have HR := Lib.hid hr
  clear hi hr
  go_enter Tryz.func215, Tryz.ntmps215
  go_wp2_with fail
  go_loop [8] (fun i => ∃ k : Nat, k ≤ n ∧ i = .int .i64 k ∧ ∀ j, j < k → 128 ≤ zs.getD j 0) (fun i => n - (intOf i).toNat)
  case atStart => exact ⟨0, Nat.zero_le _, rfl, fun j h => absurd h (by omega)⟩
  case round =>
    obtain ⟨k, hk, rfl, hbs⟩ := hrel
    have HB := Lib.hid hbs
    clear hbs
    by_cases hlt : k < n
    · obtain ⟨b, o, rfl, hbw, hcell⟩ := HI.out.cell hlt
      rcases Int.lt_or_le (zs.getD k 0) 128 with hz | hz
      · have hrk : r = k := by
          rcases HR.out with ⟨_, h⟩ | ⟨j, h1, h2, h3, h4⟩
          · have := h k hlt; omega
          · have h5 : ¬ k < j := fun h => by have := h3 k h; omega
            have h6 : ¬ j < k := fun h => by have := HB.out j h; omega
            omega
        have HRK := Lib.hid hrk
        clear hrk
        generalize zs.getD k 0 = z at *
        have hd : decide (z < 128) = true := decide_eq_true hz
        go_wp2_with (go_at_call 216; refine (low_ _ _).mono ?_; rintro e w' ⟨rfl, rfl⟩)
        go_ret
        exact ⟨by rw [HRK.out]; rfl, rfl⟩
      · have HN : Hid (∀ j, j < k + 1 → 128 ≤ zs.getD j 0) := by
          intro j hj
          rcases Nat.lt_or_ge j k with h | h
          · exact HB.out j h
          · obtain rfl : j = k := by omega
            exact hz
        generalize zs.getD k 0 = z at *
        have hd : decide (z < 128) = false := decide_eq_false (by omega)
        go_wp2_with (go_at_call 216; refine (low_ _ _).mono ?_; rintro e w' ⟨rfl, rfl⟩)
        go_round
        case rel => exact ⟨k + 1, by omega, by go_num, HN.out⟩
        case measure => simp [intOf]; omega
    · obtain rfl : k = n := by omega
      have hrk : r = -1 := by
        rcases HR.out with ⟨h, _⟩ | ⟨j, h1, h2, h3, h4⟩
        · exact h
        · have := HB.out j h2; omega
      have HRK := Lib.hid hrk
      clear hrk
      go_wp2
      go_ret
      exact ⟨by rw [HRK.out]; rfl, rfl⟩

/-- Is what stands there the shortest form? -/
def shortB (n : Nat) (z : Int) : Bool := if n = 1 then true else if n = 10 then z == 1 else decide (0 < z)

theorem shortest (A : Option Addr) (n c : Nat) (zs : List Int) (w : World) (hi : Ints .u8 w A n zs) (hn : n ≤ 9223372036854775807) (h1 : 1 ≤ n) :
    Calls Tryz.prog 217 #[.slice A n c] w fun e w' => e = .returned (.bool (shortB n (zs.getD (n - 1) 0))) ∧ w = w' := by
  obtain ⟨b, o, rfl, hbw, hcell⟩ := hi.cell (i := n - 1) (by omega)
  have g0 : (0 : Int) ≤ (n : Int) - 1 := by omega
  have g1 : ((n : Int) - 1).toNat = n - 1 := by omega
  have g2 : (n : Int) - 1 < n := by omega
  generalize zs.getD (n - 1) 0 = z at *
  by_cases e1 : n = 1
  · have E := Lib.hid (show shortB n z = true from if_pos e1)
    have f1 : ((n : Int) == 1) = true := beq_iff_eq.2 (by omega)
    clear e1
    go_enter Tryz.func217, Tryz.ntmps217
    go_wp2
    go_ret
    exact ⟨by rw [E.out]; rfl, rfl⟩
  · have f1 : ((n : Int) == 1) = false := beq_eq_false_iff_ne.2 (by omega)
    by_cases e2 : n = 10
    · have E := Lib.hid (show shortB n z = (z == 1) by unfold shortB; rw [if_neg e1, if_pos e2])
      have f2 : ((n : Int) == 10) = true := beq_iff_eq.2 (by omega)
      clear e1 e2
      go_enter Tryz.func217, Tryz.ntmps217
      go_wp2
      go_ret
      exact ⟨by rw [E.out]; rfl, rfl⟩
    · have E := Lib.hid (show shortB n z = decide (0 < z) by unfold shortB; rw [if_neg e1, if_neg e2])
      have f2 : ((n : Int) == 10) = false := beq_eq_false_iff_ne.2 (by omega)
      clear e1 e2
      go_enter Tryz.func217, Tryz.ntmps217
      go_wp2
      go_ret
      exact ⟨by rw [E.out]; rfl, rfl⟩
end Cd
end Go.Proofs.YtneajcoiemkfbaaGreat
end
