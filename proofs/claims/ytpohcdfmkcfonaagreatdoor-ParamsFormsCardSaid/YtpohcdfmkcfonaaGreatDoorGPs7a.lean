/-
  Two records of a call's own stored anew, and != of two structs as an operation of a region. No condition.
-/
import Derived.Test.YtpohcdfmkcfonaaGreatDoorGPs1
import Derived.Test.YtpohcdfmkcfonaaGreatDoorGPs6
import Derived.Test.YtpohcdfmkcfonaaGreatDoorGPEq
import Derived.Test.YtpohcdfmkcfonaaGreatDoorPK
import Derived.Test.YtpohcdfmkcfonaaGreatDoorGPNm2
import Derived.Test.YtpohcdfmkcfonaaGreatDoorGPPrs
import Derived.Test.YtpohcdfmkcfonaaGreatDoorGPRd
namespace Go.Proofs.YtpohcdfmkcfonaaGreatDoor
open Go.RowKit Go.Shelf
set_option linter.unusedVariables false
namespace Pm
open Kk

theorem exec_neq7 {a : Act} {o : Oper} {t t2 : TypeId} {x y : Operand} (ho : o.op = .binOp .neq t x y t2) (xs ys : Array Value) (hx : a.eval x = .agg xs) (hy : a.eval y = .agg ys) (hm : Tryz.prog.eqGuardType Tryz.prog.depth t = false)
    {b : Bool} (hb : ∀ w, (binOp .neq t (.agg xs) (.agg ys)).run Tryz.prog w = .ok (.bool b) w) (w : World) : (execOp a.eval o).run Tryz.prog w = .ok (.value (.bool b)) w := by
  unfold execOp
  simp only [ho, hx, hy, Sem.run_bind, run_eqGuard_agg (hm := hm), Result.andThen_ok, hb, Sem.run_pure]
theorem neq_rec (x : Nat → Int) (W : World) : (binOp .neq 24 (.agg (recC x).toArray) (.agg (recC x).toArray)).run Tryz.prog W = .ok (.bool false) W := by
  rw [run_neq_struct, eqIn_rec x]
  rfl
theorem part07 {P : Program} {t : TypeId} {q : IntKind} (hu : P.underlying t = some (.int q)) {xs : Array Value} {i : Nat} {v : Value} (hx : xs[i]? = some v) (w : World) : (part t xs i).run P w = .ok v w := by
  simp [part, isAgg, run_underlying hu, hx]
theorem neq_flt (W : World) : (binOp .neq 34 (.agg #[.int .i64 0, .int .i64 0]) (.agg #[.int .i64 0, .int .i64 0])).run Tryz.prog W = .ok (.bool false) W := by
  have hS : Tryz.prog.underlying 34 = some (.struct (Tryz.prog.fieldsOf 34)) := by kernel_rfl
  rw [run_neq_struct, show (10000 : Nat) = 9999 + 1 from rfl, run_equalIn_struct W 9999 _ _ _ hS (by kernel_rfl)]
  simp only [Program.fieldsOf, Tryz.underlying34]
  have p1 : ∀ w, (part 27 #[Value.int .i64 0, .int .i64 0] 0).run Tryz.prog w = .ok (.int .i64 0) w := fun w => part07 Tryz.underlying27 rfl w
  have p3 : ∀ w, (part 3 #[Value.int .i64 0, .int .i64 0] 1).run Tryz.prog w = .ok (.int .i64 0) w := fun w => part07 Tryz.underlying3 rfl w
  have q1 : (Op.equalIn 9999 27 (.int .i64 0) (.int .i64 0)).run Tryz.prog W = .ok ((0 : Int) == 0) W := run_equalIn_int W 9998 _ _ _ _ _ Tryz.underlying27
  have q2 : (Op.equalIn 9999 3 (.int .i64 0) (.int .i64 0)).run Tryz.prog W = .ok ((0 : Int) == 0) W := run_equalIn_int W 9998 _ _ _ _ _ Tryz.underlying3
  simp only [Op.eqFields]
  simp [Sem.run_ite, p1, p3, q1, q2]
theorem info_flt7 : (Tryz.prog.info? 34).map (·.size) = some 2 := by kernel_rfl
/-- Two blocks of a call's own stored anew. -/
structure Put7 (V0 W V : World) (a b : Nat) (Y F : List Value) : Prop where
  t1 : W.there a 0 Y.toArray.size
  t2 : (W.setCells a 0 Y).there b 0 F.toArray.size
  ba : Blk V a Y.toArray 24
  bb : Blk V b F.toArray 34
  bel : Bel V0 V
  kep : ∀ {c : Nat} {C : Array Value} {t : TypeId}, c ≠ a → c ≠ b → Blk W c C t → Blk V c C t
theorem put7 {V0 W : World} {a b : Nat} {C C' : Array Value} (h0 : Bel V0 W) (ha : V0.heap.size ≤ a) (hb : V0.heap.size ≤ b) (hab : a ≠ b) (hA : Blk W a C 24) (hC : C.size = 11) (hB : Blk W b C' 34) (hC' : C'.size = 2) (Y F : List Value) (hY : Y.length = 11) (hF : F.length = 2) :
    Put7 V0 W ((W.setCells a 0 Y).setCells b 0 F) a b Y F := by
  have k1 := kep_setCells a Y 0 W
  have k2 := kep_setCells b F 0 (W.setCells a 0 Y)
  have b1 : Blk (W.setCells a 0 Y) b C' 34 := hB.kep k1 (show ¬ b = a from fun e => hab e.symm)
  have a1 : Blk (W.setCells a 0 Y) a Y.toArray 24 := bwhole hA (by omega)
  exact ⟨bthere hA 0 _ (by simp [hY, hC]), bthere b1 0 _ (by simp [hF, hC']), a1.kep k2 (show ¬ a = b from hab), bwhole b1 (by omega), bel_setCells (bel_setCells h0 ha 0 Y) hb 0 F, fun h1 h2 h => (h.kep k1 h1).kep k2 h2⟩
/-- The same, where both blocks are new. -/
theorem new7 (W : World) (Y F : List Value) (hY : Y.length = 11) (hF : F.length = 2) (Z : Array Value) (hZ : Z.size = 11) (Z' : Array Value) (hZ' : Z'.size = 2) :
    Put7 W ((W.alloc (.cells Z 24)).alloc (.cells Z' 34)) ((((W.alloc (.cells Z 24)).alloc (.cells Z' 34)).setCells W.heap.size 0 Y).setCells (W.heap.size + 1) 0 F) W.heap.size (W.heap.size + 1) Y F :=
  put7 (((Bel.refl W).alloc _).alloc _) (Nat.le_refl _) (by omega) (by omega) ((Blk.new W _ _).alloc _) hZ (by
    have h := Blk.new (W.alloc (.cells Z 24)) Z' 34
    rwa [World.size_alloc] at h) hZ' Y F hY hF
theorem txt_ok {x : Nat → Int} (hc : Chk x 0 0) {s : ByteArray} {a : Int} (h : Txt x s a) : a = 0 ∧ s = textB x 11 := by
  rcases h with ⟨h1, _, h2⟩ | ⟨h1, _, b, hb⟩
  · exact ⟨h1, h2⟩
  · exact absurd (hb.uniq hc).1 h1
theorem byt_ok {x : Nat → Int} (hc : Chk x 0 0) {zs : List Int} {a : Int} (h : Byt x zs a) : a = 0 ∧ zs = encs x 11 := by
  rcases h with ⟨h1, _, h2⟩ | ⟨h1, _, b, hb⟩
  · exact ⟨h1, h2⟩
  · exact absurd (hb.uniq hc).1 h1
theorem encs_bytes {x : Nat → Int} (hx : Kinds x) (hc : Chk x 0 0) : Cd.Bytes (encs x 11) := by
  have key : ∀ k, k ≤ 11 → ∀ z ∈ encs x k, 0 ≤ z ∧ z ≤ 255 := by
    intro k
    induction k with
    | zero => intro _ z hz; cases hz
    | succ k ih =>
      intro hk z hz
      rcases List.mem_append.1 (show z ∈ encs x k ++ Cd.enc (x k) from hz) with h | h
      · exact ih (by omega) z h
      · have hb := ok_b hx hc k (by omega)
        exact Cd.enc_byte hb.1 (by omega) z h
  exact Cd.bytes_of (key 11 (Nat.le_refl _))
theorem prs_own {x : Nat → Int} (hx : Kinds x) (hc : Chk x 0 0) : prs 0 zr (pcs (textB x 11).data.toList.length (textB x 11).data.toList) = (preX x 11, 0, 0) := by
  rw [text_lns]
  exact text_back hx hc
theorem prs_back {s : ByteArray} {y : Nat → Int} {t : Int} (h : prs 0 zr (pcs s.data.toList.length s.data.toList) = (y, 0, t)) : Kinds y ∧ Chk y 0 0 ∧ textB y 11 = s := by
  obtain ⟨h1, _, _, h4, h5⟩ := text_of 11 0 _ _ _ _ _ rfl (Nat.le_refl _) h
  obtain ⟨k1, k2⟩ := chk_of (fun i hi => h4 i (Nat.zero_le _) hi) (h5 (by omega))
  refine ⟨k1, k2, ByteArray.ext (Array.toList_inj.1 ?_)⟩
  rw [text_lns]
  exact h1.symm
end Pm
end Go.Proofs.YtpohcdfmkcfonaaGreatDoor
