/-
  What == and != of structs of integers tell, field by field. No condition.
-/
import Derived.Laws.StructEq
import Derived.ChangeKeysEq
import Derived.Test.YtcefjigbaglmeaaGreatGQuD
namespace Go.Proofs.YtcefjigbaglmeaaGreat
open Go.RowKit Go.Shelf
set_option linter.unusedVariables false
set_option linter.unusedSimpArgs false
namespace Rw

theorem eqF_cons {P : Program} {d : Nat} {xs ys : Array Value} {f : Field} {fs : List Field} {W : World} {a b : Value} {r s : Bool} (hn : f.name ≠ "_") (h1 : (part f.type xs f.offset).run P W = .ok a W) (h2 : (part f.type ys f.offset).run P W = .ok b W)
    (h3 : (Op.equalIn d f.type a b).run P W = .ok r W) (h4 : (Op.eqFields d xs ys fs).run P W = .ok s W) : (Op.eqFields d xs ys (f :: fs)).run P W = .ok (r && s) W := by
  cases r <;> simp [Op.eqFields, hn, h1, h2, h3, h4, Sem.run_ite]
theorem eqF_nil {P : Program} {d : Nat} {xs ys : Array Value} {W : World} : (Op.eqFields d xs ys []).run P W = .ok true W := rfl
theorem partI {P : Program} {t : TypeId} {q : IntKind} (hu : P.underlying t = some (.int q)) {xs : Array Value} {i : Nat} {v : Value} (hx : xs[i]? = some v) (w : World) : (part t xs i).run P w = .ok v w := by
  simp [part, isAgg, run_underlying hu, hx]
theorem partB {P : Program} {t : TypeId} (hu : P.underlying t = some .bool) {xs : Array Value} {i : Nat} {v : Value} (hx : xs[i]? = some v) (w : World) : (part t xs i).run P w = .ok v w := by
  simp [part, isAgg, run_underlying hu, hx]
theorem partS {P : Program} {t : TypeId} {fs : Array Field} (hu : P.underlying t = some (.struct fs)) {z : Nat} (hz : (P.info? t).map (·.size) = some z) {xs ys : Array Value} {i : Nat} (he : xs.extract i (i + z) = ys) (w : World) : (part t xs i).run P w = .ok (.agg ys) w := by
  cases hq : P.info? t with
  | none => rw [hq] at hz; cases hz
  | some k =>
    rw [hq] at hz
    simp at hz
    subst hz
    simp [part, isAgg, run_underlying hu, sizeOf, typeInfo, hq, he]
theorem exec_neq {P : Program} {a : Act} {o : Oper} {t t2 : TypeId} {x y : Operand} (ho : o.op = .binOp .neq t x y t2) (xs ys : Array Value) (hx : a.eval x = .agg xs) (hy : a.eval y = .agg ys) (hm : P.eqGuardType P.depth t = false)
    {b : Bool} (hb : ∀ w, (binOp .neq t (.agg xs) (.agg ys)).run P w = .ok (.bool b) w) (w : World) : (execOp a.eval o).run P w = .ok (.value (.bool b)) w := by
  unfold execOp
  simp only [ho, hx, hy, Sem.run_bind, run_eqGuard_agg (hm := hm), Result.andThen_ok, hb, Sem.run_pure]
theorem exec_eql {P : Program} {a : Act} {o : Oper} {t t2 : TypeId} {x y : Operand} (ho : o.op = .binOp .eql t x y t2) (xs ys : Array Value) (hx : a.eval x = .agg xs) (hy : a.eval y = .agg ys) (hm : P.eqGuardType P.depth t = false)
    {b : Bool} (hb : ∀ w, (binOp .eql t (.agg xs) (.agg ys)).run P w = .ok (.bool b) w) (w : World) : (execOp a.eval o).run P w = .ok (.value (.bool b)) w := by
  unfold execOp
  simp only [ho, hx, hy, Sem.run_bind, run_eqGuard_agg (hm := hm), Result.andThen_ok, hb, Sem.run_pure]
/-- An operation that yields a value, whether it is guarded or not, as an arm of a walk. -/
theorem wpList_val {P : Program} {ops : Array Oper} {rest : List Oper} {o : Oper} {a : Act} {w : World} {Q : Exit → Act → World → Prop} (hw : Region.wanted o (yielded ops a.tmps) = true) (V : Value) (hr : ∀ w, (execOp a.eval o).run P w = .ok (.value V) w)
    (h : wpList P ops Q rest (a.put o.dst V) w) : wpList P ops Q (o :: rest) a w :=
  wpList_step fun K hK => by
    rw [if_pos hw]
    unfold Oper.wp
    rw [hr]
    exact hK _ _ h

theorem eqIn_stamp (d : Nat) (a0 : Int) (a1 : Int) (a2 : Int) (a3 : Int) (b0 : Int) (b1 : Int) (b2 : Int) (b3 : Int) (W : World) : (Op.equalIn (d + 2) 51 (.agg #[Value.int .i64 a0, Value.int .i64 a1, Value.int .i64 a2, Value.int .i64 a3]) (.agg #[Value.int .i64 b0, Value.int .i64 b1, Value.int .i64 b2, Value.int .i64 b3])).run Tryz.prog W = .ok ((a0 == b0) && ((a1 == b1) && ((a2 == b2) && ((a3 == b3) && true)))) W := by
  have hS : Tryz.prog.underlying 51 = some (.struct (Tryz.prog.fieldsOf 51)) := by kernel_rfl
  rw [show d + 2 = (d + 1) + 1 from rfl, run_equalIn_struct W (d + 1) _ _ _ hS (by kernel_rfl)]
  simp only [Program.fieldsOf, Tryz.underlying51]
  exact eqF_cons (by decide) (partI Tryz.underlying3 rfl _) (partI Tryz.underlying3 rfl _) (run_equalIn_int W _ _ _ _ _ _ Tryz.underlying3) (eqF_cons (by decide) (partI Tryz.underlying3 rfl _) (partI Tryz.underlying3 rfl _) (run_equalIn_int W _ _ _ _ _ _ Tryz.underlying3) (eqF_cons (by decide) (partI Tryz.underlying3 rfl _) (partI Tryz.underlying3 rfl _) (run_equalIn_int W _ _ _ _ _ _ Tryz.underlying3) (eqF_cons (by decide) (partI Tryz.underlying3 rfl _) (partI Tryz.underlying3 rfl _) (run_equalIn_int W _ _ _ _ _ _ Tryz.underlying3) (eqF_nil))))
theorem eq_stamp (a0 : Int) (a1 : Int) (a2 : Int) (a3 : Int) (b0 : Int) (b1 : Int) (b2 : Int) (b3 : Int) : ((a0 == b0) && ((a1 == b1) && ((a2 == b2) && ((a3 == b3) && true)))) = decide ((a0, a1, a2, a3) = (b0, b1, b2, b3)) := by
  rw [Bool.eq_iff_iff]
  simp only [Bool.and_eq_true, beq_iff_eq, Prod.mk.injEq, and_assoc, and_true, decide_eq_true_eq]
theorem eql_stamp (a0 : Int) (a1 : Int) (a2 : Int) (a3 : Int) (b0 : Int) (b1 : Int) (b2 : Int) (b3 : Int) (W : World) : (binOp .eql 51 (.agg #[Value.int .i64 a0, Value.int .i64 a1, Value.int .i64 a2, Value.int .i64 a3]) (.agg #[Value.int .i64 b0, Value.int .i64 b1, Value.int .i64 b2, Value.int .i64 b3])).run Tryz.prog W = .ok (.bool (decide ((a0, a1, a2, a3) = (b0, b1, b2, b3)))) W := by
  rw [run_eql_struct, show (10000 : Nat) = 9998 + 2 from rfl, eqIn_stamp, eq_stamp]
  rfl
theorem neq_stamp (a0 : Int) (a1 : Int) (a2 : Int) (a3 : Int) (b0 : Int) (b1 : Int) (b2 : Int) (b3 : Int) (W : World) : (binOp .neq 51 (.agg #[Value.int .i64 a0, Value.int .i64 a1, Value.int .i64 a2, Value.int .i64 a3]) (.agg #[Value.int .i64 b0, Value.int .i64 b1, Value.int .i64 b2, Value.int .i64 b3])).run Tryz.prog W = .ok (.bool (!decide ((a0, a1, a2, a3) = (b0, b1, b2, b3)))) W := by
  rw [run_neq_struct, show (10000 : Nat) = 9998 + 2 from rfl, eqIn_stamp, eq_stamp]
  rfl

theorem eqIn_entry (d : Nat) (a0 : Int) (a1 : Int) (a2 : Int) (a3 : Int) (a4 : Int) (a5 : Int) (a6 : Int) (a7 : Int) (b0 : Int) (b1 : Int) (b2 : Int) (b3 : Int) (b4 : Int) (b5 : Int) (b6 : Int) (b7 : Int) (W : World) : (Op.equalIn (d + 3) 53 (.agg #[Value.int .i64 a0, Value.int .i64 a1, Value.int .i64 a2, Value.int .i64 a3, Value.int .i64 a4, Value.int .i64 a5, Value.int .u64 a6, Value.int .u64 a7]) (.agg #[Value.int .i64 b0, Value.int .i64 b1, Value.int .i64 b2, Value.int .i64 b3, Value.int .i64 b4, Value.int .i64 b5, Value.int .u64 b6, Value.int .u64 b7])).run Tryz.prog W = .ok ((a0 == b0) && (((a1 == b1) && ((a2 == b2) && ((a3 == b3) && ((a4 == b4) && true)))) && ((a5 == b5) && ((a6 == b6) && ((a7 == b7) && true))))) W := by
  have hS : Tryz.prog.underlying 53 = some (.struct (Tryz.prog.fieldsOf 53)) := by kernel_rfl
  rw [show d + 3 = (d + 2) + 1 from rfl, run_equalIn_struct W (d + 2) _ _ _ hS (by kernel_rfl)]
  simp only [Program.fieldsOf, Tryz.underlying53]
  exact eqF_cons (by decide) (partI Tryz.underlying3 rfl _) (partI Tryz.underlying3 rfl _) (run_equalIn_int W _ _ _ _ _ _ Tryz.underlying3) (eqF_cons (by decide) (partS (ys := #[Value.int .i64 a1, Value.int .i64 a2, Value.int .i64 a3, Value.int .i64 a4]) (z := 4) Tryz.underlying51 (by kernel_rfl) rfl _) (partS (ys := #[Value.int .i64 b1, Value.int .i64 b2, Value.int .i64 b3, Value.int .i64 b4]) (z := 4) Tryz.underlying51 (by kernel_rfl) rfl _) (eqIn_stamp (d + 0) a1 a2 a3 a4 b1 b2 b3 b4 W) (eqF_cons (by decide) (partI Tryz.underlying3 rfl _) (partI Tryz.underlying3 rfl _) (run_equalIn_int W _ _ _ _ _ _ Tryz.underlying3) (eqF_cons (by decide) (partI Tryz.underlying39 rfl _) (partI Tryz.underlying39 rfl _) (run_equalIn_int W _ _ _ _ _ _ Tryz.underlying39) (eqF_cons (by decide) (partI Tryz.underlying39 rfl _) (partI Tryz.underlying39 rfl _) (run_equalIn_int W _ _ _ _ _ _ Tryz.underlying39) (eqF_nil)))))
theorem eq_entry (a0 : Int) (a1 : Int) (a2 : Int) (a3 : Int) (a4 : Int) (a5 : Int) (a6 : Int) (a7 : Int) (b0 : Int) (b1 : Int) (b2 : Int) (b3 : Int) (b4 : Int) (b5 : Int) (b6 : Int) (b7 : Int) : ((a0 == b0) && (((a1 == b1) && ((a2 == b2) && ((a3 == b3) && ((a4 == b4) && true)))) && ((a5 == b5) && ((a6 == b6) && ((a7 == b7) && true))))) = decide ((a0, a1, a2, a3, a4, a5, a6, a7) = (b0, b1, b2, b3, b4, b5, b6, b7)) := by
  rw [Bool.eq_iff_iff]
  simp only [Bool.and_eq_true, beq_iff_eq, Prod.mk.injEq, and_assoc, and_true, decide_eq_true_eq]
theorem eql_entry (a0 : Int) (a1 : Int) (a2 : Int) (a3 : Int) (a4 : Int) (a5 : Int) (a6 : Int) (a7 : Int) (b0 : Int) (b1 : Int) (b2 : Int) (b3 : Int) (b4 : Int) (b5 : Int) (b6 : Int) (b7 : Int) (W : World) : (binOp .eql 53 (.agg #[Value.int .i64 a0, Value.int .i64 a1, Value.int .i64 a2, Value.int .i64 a3, Value.int .i64 a4, Value.int .i64 a5, Value.int .u64 a6, Value.int .u64 a7]) (.agg #[Value.int .i64 b0, Value.int .i64 b1, Value.int .i64 b2, Value.int .i64 b3, Value.int .i64 b4, Value.int .i64 b5, Value.int .u64 b6, Value.int .u64 b7])).run Tryz.prog W = .ok (.bool (decide ((a0, a1, a2, a3, a4, a5, a6, a7) = (b0, b1, b2, b3, b4, b5, b6, b7)))) W := by
  rw [run_eql_struct, show (10000 : Nat) = 9997 + 3 from rfl, eqIn_entry, eq_entry]
  rfl
theorem neq_entry (a0 : Int) (a1 : Int) (a2 : Int) (a3 : Int) (a4 : Int) (a5 : Int) (a6 : Int) (a7 : Int) (b0 : Int) (b1 : Int) (b2 : Int) (b3 : Int) (b4 : Int) (b5 : Int) (b6 : Int) (b7 : Int) (W : World) : (binOp .neq 53 (.agg #[Value.int .i64 a0, Value.int .i64 a1, Value.int .i64 a2, Value.int .i64 a3, Value.int .i64 a4, Value.int .i64 a5, Value.int .u64 a6, Value.int .u64 a7]) (.agg #[Value.int .i64 b0, Value.int .i64 b1, Value.int .i64 b2, Value.int .i64 b3, Value.int .i64 b4, Value.int .i64 b5, Value.int .u64 b6, Value.int .u64 b7])).run Tryz.prog W = .ok (.bool (!decide ((a0, a1, a2, a3, a4, a5, a6, a7) = (b0, b1, b2, b3, b4, b5, b6, b7)))) W := by
  rw [run_neq_struct, show (10000 : Nat) = 9997 + 3 from rfl, eqIn_entry, eq_entry]
  rfl

theorem eqIn_shave (d : Nat) (a0 : Int) (a1 : Int) (b0 : Int) (b1 : Int) (W : World) : (Op.equalIn (d + 2) 90 (.agg #[Value.int .i64 a0, Value.int .u64 a1]) (.agg #[Value.int .i64 b0, Value.int .u64 b1])).run Tryz.prog W = .ok ((a0 == b0) && ((a1 == b1) && true)) W := by
  have hS : Tryz.prog.underlying 90 = some (.struct (Tryz.prog.fieldsOf 90)) := by kernel_rfl
  rw [show d + 2 = (d + 1) + 1 from rfl, run_equalIn_struct W (d + 1) _ _ _ hS (by kernel_rfl)]
  simp only [Program.fieldsOf, Tryz.underlying90]
  exact eqF_cons (by decide) (partI Tryz.underlying3 rfl _) (partI Tryz.underlying3 rfl _) (run_equalIn_int W _ _ _ _ _ _ Tryz.underlying3) (eqF_cons (by decide) (partI Tryz.underlying39 rfl _) (partI Tryz.underlying39 rfl _) (run_equalIn_int W _ _ _ _ _ _ Tryz.underlying39) (eqF_nil))
theorem eq_shave (a0 : Int) (a1 : Int) (b0 : Int) (b1 : Int) : ((a0 == b0) && ((a1 == b1) && true)) = decide ((a0, a1) = (b0, b1)) := by
  rw [Bool.eq_iff_iff]
  simp only [Bool.and_eq_true, beq_iff_eq, Prod.mk.injEq, and_assoc, and_true, decide_eq_true_eq]
theorem eql_shave (a0 : Int) (a1 : Int) (b0 : Int) (b1 : Int) (W : World) : (binOp .eql 90 (.agg #[Value.int .i64 a0, Value.int .u64 a1]) (.agg #[Value.int .i64 b0, Value.int .u64 b1])).run Tryz.prog W = .ok (.bool (decide ((a0, a1) = (b0, b1)))) W := by
  rw [run_eql_struct, show (10000 : Nat) = 9998 + 2 from rfl, eqIn_shave, eq_shave]
  rfl
theorem neq_shave (a0 : Int) (a1 : Int) (b0 : Int) (b1 : Int) (W : World) : (binOp .neq 90 (.agg #[Value.int .i64 a0, Value.int .u64 a1]) (.agg #[Value.int .i64 b0, Value.int .u64 b1])).run Tryz.prog W = .ok (.bool (!decide ((a0, a1) = (b0, b1)))) W := by
  rw [run_neq_struct, show (10000 : Nat) = 9998 + 2 from rfl, eqIn_shave, eq_shave]
  rfl

end Rw
end Go.Proofs.YtcefjigbaglmeaaGreat
