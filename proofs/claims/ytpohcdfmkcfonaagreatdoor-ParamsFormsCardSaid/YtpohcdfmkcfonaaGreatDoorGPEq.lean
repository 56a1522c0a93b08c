/-
  A record is equal to itself; what == of two structs answers, as an arm of a walk. No condition.
-/
import Derived.Laws.StructEq
import Derived.Test.YtpohcdfmkcfonaaGreatDoorPA
namespace Go.Proofs.YtpohcdfmkcfonaaGreatDoor
open Go.RowKit Go.Shelf
set_option linter.unusedVariables false
namespace Pm
open Kk

theorem part0 {P : Program} {t : TypeId} {q : IntKind} (hu : P.underlying t = some (.int q)) {xs : Array Value} {i : Nat} {v : Value} (hx : xs[i]? = some v) (w : World) : (part t xs i).run P w = .ok v w := by
  simp [part, isAgg, run_underlying hu, hx]
theorem eqIn_rec (x : Nat → Int) (W : World) : (Op.equalIn 10000 24 (.agg (recC x).toArray) (.agg (recC x).toArray)).run Tryz.prog W = .ok true W := by
  have hS : Tryz.prog.underlying 24 = some (.struct (Tryz.prog.fieldsOf 24)) := by kernel_rfl
  rw [show (10000 : Nat) = 9999 + 1 from rfl, run_equalIn_struct W 9999 _ _ _ hS (by kernel_rfl)]
  simp only [Program.fieldsOf, Tryz.underlying24]
  have p0 : ∀ w, (part 3 (recC x).toArray 0).run Tryz.prog w = .ok (.int .i64 (x 0)) w := fun w => part0 Tryz.underlying3 rfl w
  have p1 : ∀ w, (part 3 (recC x).toArray 1).run Tryz.prog w = .ok (.int .i64 (x 1)) w := fun w => part0 Tryz.underlying3 rfl w
  have p2 : ∀ w, (part 3 (recC x).toArray 2).run Tryz.prog w = .ok (.int .i64 (x 2)) w := fun w => part0 Tryz.underlying3 rfl w
  have p3 : ∀ w, (part 3 (recC x).toArray 3).run Tryz.prog w = .ok (.int .i64 (x 3)) w := fun w => part0 Tryz.underlying3 rfl w
  have p4 : ∀ w, (part 3 (recC x).toArray 4).run Tryz.prog w = .ok (.int .i64 (x 4)) w := fun w => part0 Tryz.underlying3 rfl w
  have p5 : ∀ w, (part 3 (recC x).toArray 5).run Tryz.prog w = .ok (.int .i64 (x 5)) w := fun w => part0 Tryz.underlying3 rfl w
  have p6 : ∀ w, (part 3 (recC x).toArray 6).run Tryz.prog w = .ok (.int .i64 (x 6)) w := fun w => part0 Tryz.underlying3 rfl w
  have p7 : ∀ w, (part 22 (recC x).toArray 7).run Tryz.prog w = .ok (.int .u64 (x 7)) w := fun w => part0 Tryz.underlying22 rfl w
  have p8 : ∀ w, (part 22 (recC x).toArray 8).run Tryz.prog w = .ok (.int .u64 (x 8)) w := fun w => part0 Tryz.underlying22 rfl w
  have p9 : ∀ w, (part 3 (recC x).toArray 9).run Tryz.prog w = .ok (.int .i64 (x 9)) w := fun w => part0 Tryz.underlying3 rfl w
  have p10 : ∀ w, (part 22 (recC x).toArray 10).run Tryz.prog w = .ok (.int .u64 (x 10)) w := fun w => part0 Tryz.underlying22 rfl w
  have q0 : ∀ x : Int, (Op.equalIn 9999 3 (.int .i64 x) (.int .i64 x)).run Tryz.prog W = .ok (x == x) W := fun x => run_equalIn_int W 9998 _ _ _ _ _ Tryz.underlying3
  have q4 : ∀ x : Int, (Op.equalIn 9999 22 (.int .u64 x) (.int .u64 x)).run Tryz.prog W = .ok (x == x) W := fun x => run_equalIn_int W 9998 _ _ _ _ _ Tryz.underlying22
  simp only [Op.eqFields]
  simp [Sem.run_ite, p0, p1, p2, p3, p4, p5, p6, p7, p8, p9, p10, q0, q4]
theorem eql_rec (x : Nat → Int) (W : World) : (binOp .eql 24 (.agg (recC x).toArray) (.agg (recC x).toArray)).run Tryz.prog W = .ok (.bool true) W := by
  rw [run_eql_struct, eqIn_rec x]
  rfl
/-- What == of two structs answers, as an operation of a region. -/
theorem exec_eql {a : Act} {o : Oper} {t t2 : TypeId} {x y : Operand} (ho : o.op = .binOp .eql t x y t2) (xs ys : Array Value) (hx : a.eval x = .agg xs) (hy : a.eval y = .agg ys) (hm : Tryz.prog.eqGuardType Tryz.prog.depth t = false)
    {b : Bool} (hb : ∀ w, (binOp .eql t (.agg xs) (.agg ys)).run Tryz.prog w = .ok (.bool b) w) (w : World) : (execOp a.eval o).run Tryz.prog w = .ok (.value (.bool b)) w := by
  unfold execOp
  simp only [ho, hx, hy, Sem.run_bind, run_eqGuard_agg (hm := hm), Result.andThen_ok, hb, Sem.run_pure]
/-- An operation that yields a value, whether it is guarded or not, as an arm of a walk. -/
theorem wpList_val {ops : Array Oper} {rest : List Oper} {o : Oper} {a : Act} {w : World} {Q : Exit → Act → World → Prop} (hw : Region.wanted o (yielded ops a.tmps) = true) (V : Value) (hr : ∀ w, (execOp a.eval o).run Tryz.prog w = .ok (.value V) w)
    (h : wpList Tryz.prog ops Q rest (a.put o.dst V) w) : wpList Tryz.prog ops Q (o :: rest) a w :=
  wpList_step fun K hK => by
    rw [if_pos hw]
    unfold Oper.wp
    rw [hr]
    exact hK _ _ h
/-- A load of a row, whether it is guarded or not. -/
theorem wpList_load_g {ops : Array Oper} {rest : List Oper} {o : Oper} {a : Act} {w : World} {Q : Exit → Act → World → Prop} (hw : Region.wanted o (yielded ops a.tmps) = true) (ty : TypeId) (x : Operand) (ho : o.op = .load ty x)
    (b q : Nat) (hx : a.eval x = .pointer (some ⟨b, q, none⟩)) (cs : List Value) (d : TypeDesc) (hc : w.rangeAt b q cs)
    (hu : Tryz.prog.underlying ty = some d) (hd : d.isRow = true) (hi : (Tryz.prog.info? ty).map (·.size) = some cs.length)
    (h : wpList Tryz.prog ops Q rest (a.put o.dst (.agg cs.toArray)) w) : wpList Tryz.prog ops Q (o :: rest) a w :=
  wpList_step fun K hK => by
    rw [if_pos hw]
    exact wp_load_mid ty x ho b q hx cs d hc hu hd hi (hK _ _ h)
end Pm
end Go.Proofs.YtpohcdfmkcfonaaGreatDoor
