/-
  What journals answer that are nil, or that nobody made. Conditions: nil, or an object whose first cell is nil.
-/
import Derived.Test.YtogphhhlbofgkaaJn15
namespace Go.Proofs.Ytogphhhlbofgkaa
open Go.RowKit Go.Shelf Go.Maps
set_option linter.unusedVariables false
namespace Jn
open Kk Pm Bk

theorem jeq_nil (a : Addr) (w : World) : (binOp .eql 23 (.pointer none) (.pointer (some a))).run Try.prog w = .ok (.bool false) w := by
  have ht := Try.underlying23
  have h : ∀ d : Nat, (Op.equalIn (d + 1) 23 (.pointer none) (.pointer (some a))).run Try.prog w = .ok false w := fun d => by simp [Op.equalIn, run_underlying ht]
  simp only [binOp]
  simp [Op.equal, Op.maxDepth, h 9999]
/-- Nil, or made by nobody. -/
def Null (w : World) (v : Value) : Prop := v = .pointer none ∨ ∃ b, v = .pointer (some ⟨b, 0, none⟩) ∧ w.cell? ⟨b, 0, none⟩ = some (.pointer none)
theorem Null.bel {w w' : World} {v : Value} (h : Null w v) (hb : Bel w w') : Null w' v := by
  rcases h with rfl | ⟨b, rfl, hc⟩
  · exact .inl rfl
  · exact .inr ⟨b, rfl, cell_bel hc hb⟩
theorem null_nil (w : World) : Null w (.pointer none) := .inl rfl

theorem valid0 (v : Value) (w : World) (h : Null w v) : Calls Try.prog 40 #[v] w fun e w' => e = .returned (.bool false) ∧ w = w' := by
  have hq := fun (b : Nat) (w : World) => jeq_nil ⟨b, 0, none⟩ w
  rcases h with rfl | ⟨b, rfl, c0⟩
  all_goals
    go_enter Try.func40, Try.ntmps40
    go_wp2
    go_ret
    exact ⟨rfl, rfl⟩
theorem check0 (v s : Value) (w : World) (h : Null w v) : Calls Try.prog 45 #[v, s] w fun e w' => e = .returned (.int .i64 1) ∧ w = w' := by
  have V := Lib.hid (valid0 v w h)
  clear h
  go_enter Try.func45, Try.ntmps45
  go_wp2_with fail
  refine V.out.mono ?_
  rintro e w1 ⟨rfl, rfl⟩
  go_wp2
  go_ret
  exact ⟨rfl, rfl⟩
theorem checkOpen0 (v : Value) (w : World) (h : Null w v) : Calls Try.prog 63 #[v] w fun e w' => e = .returned (.int .i64 1) ∧ w = w' := by
  have V := Lib.hid (check0 v (.slice none 0 0) w h)
  clear h
  go_enter Try.func63, Try.ntmps63
  go_wp2_with fail
  refine V.out.mono ?_
  rintro e w1 ⟨rfl, rfl⟩
  go_wp2
  go_ret
  exact ⟨rfl, rfl⟩
theorem get0 (v : Value) (i : Int) (w : World) (h : Null w v) : Calls Try.prog 25 #[v, .int .i64 i] w fun e w' => e = .returned (.tuple #[.int .u64 0, .int .i64 1]) ∧ Bel w w' := by
  have hb : Bel w (w.alloc (.cells #[.int .i64 i] 3)) := (Bel.refl w).alloc _
  have V := Lib.hid (check0 v (.slice (some ⟨w.heap.size, 0, none⟩) 1 1) _ (h.bel hb))
  have HB := Lib.hid hb
  clear h hb
  go_enter Try.func25, Try.ntmps25
  go_wp2_with fail
  refine V.out.mono ?_
  rintro e w1 ⟨rfl, rfl⟩
  go_wp2
  go_ret2
  exact ⟨rfl, HB.out⟩
theorem set0 (v : Value) (i u : Int) (w : World) (h : Null w v) : Calls Try.prog 14 #[v, .int .i64 i, .int .u64 u] w fun e w' => e = .returned (.int .i64 1) ∧ Bel w w' := by
  have hb : Bel w (w.alloc (.cells #[.int .i64 i] 3)) := (Bel.refl w).alloc _
  have V := Lib.hid (check0 v (.slice (some ⟨w.heap.size, 0, none⟩) 1 1) _ (h.bel hb))
  have HB := Lib.hid hb
  clear h hb
  go_enter Try.func14, Try.ntmps14
  go_wp2_with fail
  refine V.out.mono ?_
  rintro e w1 ⟨rfl, rfl⟩
  go_wp2
  go_ret
  exact ⟨rfl, HB.out⟩
theorem step0 (v : Value) (i u : Int) (f : Value) (w : World) (h : Null w v) : Calls Try.prog 59 #[v, .int .i64 i, .int .u64 u, f] w fun e w' => e = .returned (.int .i64 1) ∧ Bel w w' := by
  have hb : Bel w (w.alloc (.cells #[.int .i64 i] 3)) := (Bel.refl w).alloc _
  have V := Lib.hid (check0 v (.slice (some ⟨w.heap.size, 0, none⟩) 1 1) _ (h.bel hb))
  have HB := Lib.hid hb
  clear h hb
  go_enter Try.func59, Try.ntmps59
  go_wp2_with fail
  refine V.out.mono ?_
  rintro e w1 ⟨rfl, rfl⟩
  go_wp2
  go_ret
  exact ⟨rfl, HB.out⟩
theorem begin0 (v : Value) (w : World) (h : Null w v) : Calls Try.prog 16 #[v] w fun e w' => e = .returned (.tuple #[.int .i64 0, .int .i64 1]) ∧ Bel w w' := by
  have hb : Bel w w := Bel.refl w
  have V := Lib.hid (check0 v (.slice none 0 0) w h)
  have HB := Lib.hid hb
  clear h hb
  go_enter Try.func16, Try.ntmps16
  go_wp2_with fail
  refine V.out.mono ?_
  rintro e w1 ⟨rfl, rfl⟩
  go_wp2
  go_ret2
  exact ⟨rfl, HB.out⟩
theorem keep0 (v : Value) (w : World) (h : Null w v) : Calls Try.prog 39 #[v] w fun e w' => e = .returned (.int .i64 1) ∧ Bel w w' := by
  have hb : Bel w w := Bel.refl w
  have V := Lib.hid (checkOpen0 v w h)
  have HB := Lib.hid hb
  clear h hb
  go_enter Try.func39, Try.ntmps39
  go_wp2_with fail
  refine V.out.mono ?_
  rintro e w1 ⟨rfl, rfl⟩
  go_wp2
  go_ret
  exact ⟨rfl, HB.out⟩
theorem undo0 (v : Value) (w : World) (h : Null w v) : Calls Try.prog 36 #[v] w fun e w' => e = .returned (.int .i64 1) ∧ Bel w w' := by
  have hb : Bel w w := Bel.refl w
  have V := Lib.hid (checkOpen0 v w h)
  have HB := Lib.hid hb
  clear h hb
  go_enter Try.func36, Try.ntmps36
  go_wp2_with fail
  refine V.out.mono ?_
  rintro e w1 ⟨rfl, rfl⟩
  go_wp2
  go_ret
  exact ⟨rfl, HB.out⟩
theorem back0 (v : Value) (d : Int) (w : World) (h : Null w v) : Calls Try.prog 15 #[v, .int .i64 d] w fun e w' => e = .returned (.int .i64 1) ∧ Bel w w' := by
  have hb : Bel w w := Bel.refl w
  have V := Lib.hid (check0 v (.slice none 0 0) w h)
  have HB := Lib.hid hb
  clear h hb
  go_enter Try.func15, Try.ntmps15
  go_wp2_with fail
  refine V.out.mono ?_
  rintro e w1 ⟨rfl, rfl⟩
  go_wp2
  go_ret
  exact ⟨rfl, HB.out⟩
theorem depth0 (v : Value) (w : World) (h : Null w v) : Calls Try.prog 26 #[v] w fun e w' => e = .returned (.int .i64 0) ∧ Bel w w' := by
  have hb : Bel w w := Bel.refl w
  have V := Lib.hid (valid0 v w h)
  have HB := Lib.hid hb
  clear h hb
  go_enter Try.func26, Try.ntmps26
  go_wp2_with fail
  refine V.out.mono ?_
  rintro e w1 ⟨rfl, rfl⟩
  go_wp2
  go_ret
  exact ⟨rfl, HB.out⟩
theorem cells0 (v : Value) (w : World) (h : Null w v) : Calls Try.prog 27 #[v] w fun e w' => e = .returned (.slice none 0 0) ∧ Bel w w' := by
  have hb : Bel w w := Bel.refl w
  have V := Lib.hid (valid0 v w h)
  have HB := Lib.hid hb
  clear h hb
  go_enter Try.func27, Try.ntmps27
  go_wp2_with fail
  refine V.out.mono ?_
  rintro e w1 ⟨rfl, rfl⟩
  go_wp2
  go_ret
  exact ⟨rfl, HB.out⟩
theorem touched0 (v : Value) (w : World) (h : Null w v) : Calls Try.prog 28 #[v] w fun e w' => e = .returned (.slice none 0 0) ∧ Bel w w' := by
  have hb : Bel w w := Bel.refl w
  have V := Lib.hid (checkOpen0 v w h)
  have HB := Lib.hid hb
  clear h hb
  go_enter Try.func28, Try.ntmps28
  go_wp2_with fail
  refine V.out.mono ?_
  rintro e w1 ⟨rfl, rfl⟩
  go_wp2
  go_ret
  exact ⟨rfl, HB.out⟩
theorem copy0 (v : Value) (w : World) (h : Null w v) : Calls Try.prog 13 #[v] w fun e w' => e = .returned (.pointer none) ∧ Bel w w' := by
  have hb : Bel w w := Bel.refl w
  have V := Lib.hid (valid0 v w h)
  have HB := Lib.hid hb
  clear h hb
  go_enter Try.func13, Try.ntmps13
  go_wp2_with fail
  refine V.out.mono ?_
  rintro e w1 ⟨rfl, rfl⟩
  go_wp2
  go_ret
  exact ⟨rfl, HB.out⟩
theorem add0 (v : Value) (i u : Int) (w : World) (h : Null w v) : Calls Try.prog 22 #[v, .int .i64 i, .int .u64 u] w fun e w' => e = .returned (.int .i64 1) ∧ Bel w w' := by
  have V := Lib.hid (step0 v i u (.func (.func 60) #[] #[]) w h)
  clear h
  go_enter Try.func22, Try.ntmps22
  go_wp2_with fail
  refine V.out.mono ?_
  rintro e w1 ⟨rfl, hb⟩
  have HB := Lib.hid hb
  clear hb
  go_wp2
  go_ret
  exact ⟨rfl, HB.out⟩
theorem sub0 (v : Value) (i u : Int) (w : World) (h : Null w v) : Calls Try.prog 33 #[v, .int .i64 i, .int .u64 u] w fun e w' => e = .returned (.int .i64 1) ∧ Bel w w' := by
  have V := Lib.hid (step0 v i u (.func (.func 68) #[] #[]) w h)
  clear h
  go_enter Try.func33, Try.ntmps33
  go_wp2_with fail
  refine V.out.mono ?_
  rintro e w1 ⟨rfl, hb⟩
  have HB := Lib.hid hb
  clear hb
  go_wp2
  go_ret
  exact ⟨rfl, HB.out⟩

set_option maxHeartbeats 1000000 in
theorem move0 (v : Value) (i k u : Int) (w : World) (h : Null w v) : Calls Try.prog 31 #[v, .int .i64 i, .int .i64 k, .int .u64 u] w fun e w' => e = .returned (.int .i64 1) ∧ Bel w w' := by
  obtain ⟨q, hq⟩ : ∃ q, w.heap.size = q := ⟨_, rfl⟩
  obtain ⟨W0, hW0⟩ : ∃ W0, (w.alloc (.cells #[v] 23)).alloc (.cells #[.int .i64 0] 24) = W0 := ⟨_, rfl⟩
  have b0 : Bel w W0 := by rw [← hW0]; exact ((Bel.refl w).alloc _).alloc _
  have bq : Blk W0 q #[v] 23 := by rw [← hW0, ← hq]; exact (Blk.new w _ _).alloc _
  have be : Blk W0 (q + 1) #[.int .i64 0] 24 := by
    rw [← hW0, ← hq]
    have := Blk.new (w.alloc (.cells #[v] 23)) #[.int .i64 0] 24
    rwa [World.size_alloc] at this
  have b1 : Bel W0 (W0.alloc (.cells #[.int .i64 i, .int .i64 k] 3)) := (Bel.refl W0).alloc _
  have CK := Lib.hid (check0 v (.slice (some ⟨W0.heap.size, 0, none⟩) 2 2) _ (h.bel (b0.trans b1)))
  have HB := Lib.hid (b0.trans b1)
  have BE := Lib.hid (be.bel b1)
  have HW := Lib.hid hW0
  have HQ := Lib.hid hq
  have cq := bq.cell 0 rfl
  have ce1 := (be.bel b1).cell 0 rfl
  have fe1 := (be.bel b1).frozen 0
  have hmf : ∀ (fn : Fn) (first cap : Array Value) (w : World), (Instr.makeFunc fn first cap).run Try.prog w = .ok (.func fn first cap) w := fun _ _ _ _ => rfl
  have HN := Lib.hid h
  have hv : v = .pointer none ∨ ∃ b, v = .pointer (some ⟨b, 0, none⟩) := by
    rcases h with h | ⟨b, h, _⟩
    · exact .inl h
    · exact .inr ⟨b, h⟩
  clear h b0 bq be b1 hW0 hq HN
  rcases hv with rfl | ⟨b, rfl⟩
  all_goals
    go_enter_defers Try.func31, Try.ntmps31
    go_upto_region 1 with fail
    rw [HQ.out, HW.out]
    go_wp2_with fail
    refine CK.out.mono ?_
    rintro e w1 ⟨rfl, rfl⟩
    clear cq
    go_wp2_with fail
    show Leaves _ _ _ _ _ _ _
    refine leave_err _ _ (q + 1) 1 _ rfl ?_ ?_
    · exact (BE.out.set 0 (.int .i64 1)).cell 0 rfl
    · exact ⟨rfl, HB.out.set (p := ⟨q + 1, 0, none⟩) (by rw [HQ.out]; show q ≤ q + 1; omega) _⟩
end Jn
end Go.Proofs.Ytogphhhlbofgkaa
