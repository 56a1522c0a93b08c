/-
  When two arrays of numbers are one: hashes, states.
-/
import Derived.Test.YtaniijpppmipbaaDoorKRead
import Derived.ChangeKeysEq
namespace Go.Proofs.YtaniijpppmipbaaDoor
open Go.RowKit Go.Shelf
set_option linter.unusedVariables false
namespace Kk

theorem part_int {P : Program} {e : TypeId} {q : IntKind} (hu : P.underlying e = some (.int q)) {xs : Array Value} {i : Nat} {v : Value} (hx : xs[i]? = some v) (w : World) : (part e xs i).run P w = .ok v w := by
  simp [part, isAgg, run_underlying hu, hx]
theorem eqItems_ints {P : Program} (d : Nat) {e : TypeId} {q : IntKind} (hu : P.underlying e = some (.int q)) (A B : List Int) (w : World) : ∀ (is : List Nat), (∀ i ∈ is, i < A.length ∧ i < B.length) →
    (Op.eqItems (d + 1) e 1 (A.map (Value.int q)).toArray (B.map (Value.int q)).toArray is).run P w = .ok (is.all fun i => A.getD i 0 == B.getD i 0) w
  | [], _ => by simp [Op.eqItems]
  | i :: is, h => by
    obtain ⟨ha, hb⟩ := h i (by simp)
    have p1 : (part e (A.map (Value.int q)).toArray (i * 1)).run P w = .ok (.int q (A.getD i 0)) w := part_int hu (by rw [Nat.mul_one, List.getElem?_toArray, List.getElem?_map, List.getElem?_eq_getElem ha, getD_eq _ _ ha]; rfl) w
    have p2 : (part e (B.map (Value.int q)).toArray (i * 1)).run P w = .ok (.int q (B.getD i 0)) w := part_int hu (by rw [Nat.mul_one, List.getElem?_toArray, List.getElem?_map, List.getElem?_eq_getElem hb, getD_eq _ _ hb]; rfl) w
    have p3 := run_equalIn_int (P := P) w d e q q (A.getD i 0) (B.getD i 0) hu
    have ih := eqItems_ints d hu A B w is (fun j hj => h j (List.mem_cons_of_mem _ hj))
    simp only [Op.eqItems, Sem.run_bind, p1, p2, p3, Result.andThen_ok, List.all_cons]
    cases hc : (A.getD i 0 == B.getD i 0)
    · simp
    · simpa using ih
theorem all_eq {A B : List Int} {n : Nat} (ha : A.length = n) (hb : B.length = n) : ((List.range n).all fun i => A.getD i 0 == B.getD i 0) = (A == B) := by
  rw [Bool.eq_iff_iff, List.all_eq_true, beq_iff_eq]
  constructor
  · intro h
    apply List.ext_getElem (ha.trans hb.symm)
    intro i h1 h2
    have := h i (List.mem_range.2 (by omega))
    rw [beq_iff_eq, getD_eq _ _ h1, getD_eq _ _ h2] at this
    exact this
  · rintro rfl i _
    simp
theorem eqIn_ints {P : Program} (d : Nat) {t e : TypeId} {n : Nat} {q : IntKind} {i : TypeInfo} (ht : P.underlying t = some (.array n e)) (hu : P.underlying e = some (.int q)) (hi : P.info? e = some i) (h1 : P.cellsOf e = 1)
    (A B : List Int) (ha : A.length = n) (hb : B.length = n) (w : World) :
    (Op.equalIn (d + 2) t (.agg (A.map (Value.int q)).toArray) (.agg (B.map (Value.int q)).toArray)).run P w = .ok (A == B) w := by
  rw [run_equalIn_array w (d + 1) _ _ ht hi, h1, eqItems_ints d hu A B w _ (fun i hi => by have := List.mem_range.1 hi; omega), all_eq ha hb]
theorem eql_ints {P : Program} {t e : TypeId} {n : Nat} {q : IntKind} {i : TypeInfo} (ht : P.underlying t = some (.array n e)) (hu : P.underlying e = some (.int q)) (hi : P.info? e = some i) (h1 : P.cellsOf e = 1)
    (A B : List Int) (ha : A.length = n) (hb : B.length = n) (w : World) :
    (binOp .eql t (.agg (A.map (Value.int q)).toArray) (.agg (B.map (Value.int q)).toArray)).run P w = .ok (.bool (A == B)) w := by
  simp only [binOp]
  simp [Op.equal, Op.maxDepth, eqIn_ints 9998 ht hu hi h1 A B ha hb w]
theorem neq_ints {P : Program} {t e : TypeId} {n : Nat} {q : IntKind} {i : TypeInfo} (ht : P.underlying t = some (.array n e)) (hu : P.underlying e = some (.int q)) (hi : P.info? e = some i) (h1 : P.cellsOf e = 1)
    (A B : List Int) (ha : A.length = n) (hb : B.length = n) (w : World) :
    (binOp .neq t (.agg (A.map (Value.int q)).toArray) (.agg (B.map (Value.int q)).toArray)).run P w = .ok (.bool (!(A == B))) w := by
  simp only [binOp]
  simp [Op.equal, Op.maxDepth, eqIn_ints 9998 ht hu hi h1 A B ha hb w]

theorem eql_hs (A B : List Int) (ha : A.length = 32) (hb : B.length = 32) (w : World) : (binOp .eql 31 (hsV A) (hsV B)).run Tryd.prog w = .ok (.bool (A == B)) w := by
  obtain ⟨i, hi⟩ := info_of_underlying Tryd.underlying5
  exact eql_ints Tryd.underlying31 Tryd.underlying5 hi (by kernel_rfl) A B ha hb w
theorem neq_hs (A B : List Int) (ha : A.length = 32) (hb : B.length = 32) (w : World) : (binOp .neq 31 (hsV A) (hsV B)).run Tryd.prog w = .ok (.bool (!(A == B))) w := by
  obtain ⟨i, hi⟩ := info_of_underlying Tryd.underlying5
  exact neq_ints Tryd.underlying31 Tryd.underlying5 hi (by kernel_rfl) A B ha hb w
theorem v_cells (K : List Wd) : K.map V = (K.map U).map (Value.int .u64) := by rw [List.map_map]; rfl
theorem u_inj {a b : Wd} (h : U a = U b) : a = b := by
  unfold U at h
  exact BitVec.eq_of_toNat_eq (by omega)
theorem map_u_inj : ∀ {A B : List Wd}, A.map U = B.map U → A = B
  | [], [], _ => rfl
  | [], _ :: _, h => by simp at h
  | _ :: _, [], h => by simp at h
  | a :: A, b :: B, h => by
    simp only [List.map_cons, List.cons.injEq] at h
    rw [u_inj h.1, map_u_inj h.2]
theorem beq_map_u (A B : List Wd) : (A.map U == B.map U) = (A == B) := by
  rw [Bool.eq_iff_iff, beq_iff_eq, beq_iff_eq]
  exact ⟨map_u_inj, fun h => by rw [h]⟩
theorem eql_st (A B : List Wd) (ha : A.length = 25) (hb : B.length = 25) (w : World) : (binOp .eql 25 (.agg (A.map V).toArray) (.agg (B.map V).toArray)).run Tryd.prog w = .ok (.bool (A == B)) w := by
  obtain ⟨i, hi⟩ := info_of_underlying Tryd.underlying24
  rw [v_cells, v_cells, eql_ints Tryd.underlying25 Tryd.underlying24 hi (by kernel_rfl) (A.map U) (B.map U) (by simpa using ha) (by simpa using hb) w, beq_map_u]
end Kk
end Go.Proofs.YtaniijpppmipbaaDoor
