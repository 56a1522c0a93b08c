/-
  A vote is equal to itself, whatever it holds.
-/
import Derived.Test.YtgalhpejihmhkaaDoorGZ
import Derived.Test.YtgalhpejihmhkaaDoorGC
namespace Go.Proofs.YtgalhpejihmhkaaDoor
open Go.RowKit Go.Shelf
set_option linter.unusedVariables false
namespace Vt
open Cd

theorem eqIn_hash (hs : List Int) (h : hs.length = 32) (W : World) : (Op.equalIn 9999 23 (.agg (hs.map Kk.B8).toArray) (.agg (hs.map Kk.B8).toArray)).run Tryd.prog W = .ok true W := by
  obtain ⟨i, hi⟩ := info_of_underlying Tryd.underlying5
  have := Kk.eqIn_ints 9997 Tryd.underlying23 Tryd.underlying5 hi (by kernel_rfl) hs hs h h W
  rw [show (hs == hs) = true from beq_self_eq_true hs] at this
  exact this
theorem part_hash (i : Nat) (pre post hs : List Int) (xs : Array Value) (h : hs.length = 32) (hx : xs.extract i (i + 32) = (hs.map Kk.B8).toArray) (w : World) : (part 23 xs i).run Tryd.prog w = .ok (.agg (hs.map Kk.B8).toArray) w := by
  simp [part, isAgg, run_underlying Tryd.underlying23]
  exact hx
theorem eqIn_att (v s t tag : Int) (hs : List Int) (h : hs.length = 32) (W : World) : (Op.equalIn 10000 26 (.agg (attC v s t hs tag).toArray) (.agg (attC v s t hs tag).toArray)).run Tryd.prog W = .ok true W := by
  have hS : Tryd.prog.underlying 26 = some (.struct (Tryd.prog.fieldsOf 26)) := by kernel_rfl
  rw [show (10000 : Nat) = 9999 + 1 from rfl, run_equalIn_struct W 9999 _ _ _ hS (by kernel_rfl)]
  simp only [Program.fieldsOf, Tryd.underlying26]
  have p0 : ∀ w, (part 3 (attC v s t hs tag).toArray 0).run Tryd.prog w = .ok (.int .i64 v) w := fun w => part0 Tryd.underlying3 rfl w
  have p1 : ∀ w, (part 3 (attC v s t hs tag).toArray 1).run Tryd.prog w = .ok (.int .i64 s) w := fun w => part0 Tryd.underlying3 rfl w
  have p2 : ∀ w, (part 3 (attC v s t hs tag).toArray 2).run Tryd.prog w = .ok (.int .i64 t) w := fun w => part0 Tryd.underlying3 rfl w
  have p3 : ∀ w, (part 23 (attC v s t hs tag).toArray 3).run Tryd.prog w = .ok (.agg (hs.map Kk.B8).toArray) w := fun w => part_hash 3 [] [] hs _ h (by simp [attC, h]) w
  have p4 : ∀ w, (part 24 (attC v s t hs tag).toArray 35).run Tryd.prog w = .ok (.int .u64 tag) w := fun w => part0 Tryd.underlying24 (by simp [attC, h]) w
  have q0 : ∀ x : Int, (Op.equalIn 9999 3 (.int .i64 x) (.int .i64 x)).run Tryd.prog W = .ok (x == x) W := fun x => run_equalIn_int W 9998 _ _ _ _ _ Tryd.underlying3
  have q4 : (Op.equalIn 9999 24 (.int .u64 tag) (.int .u64 tag)).run Tryd.prog W = .ok (tag == tag) W := run_equalIn_int W 9998 _ _ _ _ _ Tryd.underlying24
  have q3 := eqIn_hash hs h W
  simp only [Op.eqFields]
  simp [Sem.run_ite, p0, p1, p2, p3, p4, q0, q3, q4]
theorem neq_att (v s t tag : Int) (hs : List Int) (h : hs.length = 32) (W : World) : (binOp .neq 26 (.agg (attC v s t hs tag).toArray) (.agg (attC v s t hs tag).toArray)).run Tryd.prog W = .ok (.bool false) W := by
  rw [run_neq_struct, eqIn_att v s t tag hs h]
  rfl
theorem eqIn_prop (v s tag : Int) (hs : List Int) (h : hs.length = 32) (W : World) : (Op.equalIn 10000 28 (.agg (propC v s hs tag).toArray) (.agg (propC v s hs tag).toArray)).run Tryd.prog W = .ok true W := by
  have hS : Tryd.prog.underlying 28 = some (.struct (Tryd.prog.fieldsOf 28)) := by kernel_rfl
  rw [show (10000 : Nat) = 9999 + 1 from rfl, run_equalIn_struct W 9999 _ _ _ hS (by kernel_rfl)]
  simp only [Program.fieldsOf, Tryd.underlying28]
  have p0 : ∀ w, (part 3 (propC v s hs tag).toArray 0).run Tryd.prog w = .ok (.int .i64 v) w := fun w => part0 Tryd.underlying3 rfl w
  have p1 : ∀ w, (part 3 (propC v s hs tag).toArray 1).run Tryd.prog w = .ok (.int .i64 s) w := fun w => part0 Tryd.underlying3 rfl w
  have p3 : ∀ w, (part 23 (propC v s hs tag).toArray 2).run Tryd.prog w = .ok (.agg (hs.map Kk.B8).toArray) w := fun w => part_hash 2 [] [] hs _ h (by simp [propC, h]) w
  have p4 : ∀ w, (part 24 (propC v s hs tag).toArray 34).run Tryd.prog w = .ok (.int .u64 tag) w := fun w => part0 Tryd.underlying24 (by simp [propC, h]) w
  have q0 : ∀ x : Int, (Op.equalIn 9999 3 (.int .i64 x) (.int .i64 x)).run Tryd.prog W = .ok (x == x) W := fun x => run_equalIn_int W 9998 _ _ _ _ _ Tryd.underlying3
  have q4 : (Op.equalIn 9999 24 (.int .u64 tag) (.int .u64 tag)).run Tryd.prog W = .ok (tag == tag) W := run_equalIn_int W 9998 _ _ _ _ _ Tryd.underlying24
  have q3 := eqIn_hash hs h W
  simp only [Op.eqFields]
  simp [Sem.run_ite, p0, p1, p3, p4, q0, q3, q4]
theorem neq_prop (v s tag : Int) (hs : List Int) (h : hs.length = 32) (W : World) : (binOp .neq 28 (.agg (propC v s hs tag).toArray) (.agg (propC v s hs tag).toArray)).run Tryd.prog W = .ok (.bool false) W := by
  rw [run_neq_struct, eqIn_prop v s tag hs h]
  rfl
end Vt
end Go.Proofs.YtgalhpejihmhkaaDoor
