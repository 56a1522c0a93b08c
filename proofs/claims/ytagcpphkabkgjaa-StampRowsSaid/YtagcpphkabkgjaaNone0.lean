/-
  What writers and readers answer in this program that are nil, or that nobody made: they have nothing.
  Conditions: nil, or an object whose first cell is nil.
-/
import Derived.Test.YtagcpphkabkgjaaCodecOne
namespace Go.Proofs.Ytagcpphkabkgjaa
open Go.RowKit Go.Shelf
set_option linter.unusedVariables false
namespace Cd

theorem eqIn_nil {w : World} (d : Nat) (t e : TypeId) (a : Addr) (ht : Try.prog.underlying t = some (.pointer e)) : (Op.equalIn (d + 1) t (.pointer none) (.pointer (some a))).run Try.prog w = .ok false w := by
  simp [Op.equalIn, run_underlying ht]
theorem neq_nil {w : World} (t e : TypeId) (a : Addr) (ht : Try.prog.underlying t = some (.pointer e)) : (binOp .neq t (.pointer none) (.pointer (some a))).run Try.prog w = .ok (.bool true) w := by
  simp only [binOp]
  simp [Op.equal, Op.maxDepth, eqIn_nil 9999 t e a ht]
/-- Nil, or made by nobody. -/
def Null (w : World) (v : Value) : Prop := v = .pointer none ∨ ∃ b, v = .pointer (some ⟨b, 0, none⟩) ∧ w.cell? ⟨b, 0, none⟩ = some (.pointer none)
theorem Null.bel {w w' : World} {v : Value} (h : Null w v) (hb : Bel w w') : Null w' v := by
  rcases h with rfl | ⟨b, rfl, hc⟩
  · exact .inl rfl
  · exact .inr ⟨b, rfl, bel_cell hb hc⟩

set_option maxRecDepth 100000 in
theorem wstate0 (v : Value) (w : World) (h : Null w v) : Calls Try.prog 46 #[v] w fun e w' => e = .returned (.int .i64 1) ∧ w = w' := by
  have hq := fun (b : Nat) (w : World) => neq_nil (w := w) 38 70 ⟨b, 0, none⟩ Try.underlying38
  rcases h with rfl | ⟨b, rfl, c0⟩
  all_goals
    go_enter Try.func46, Try.ntmps46
    go_wp2
    go_ret
    exact ⟨rfl, rfl⟩
set_option maxRecDepth 100000 in
theorem write0 (v s : Value) (w : World) (h : Null w v) : Calls Try.prog 69 #[v, s] w fun e w' => e = .returned (.int .i64 1) ∧ w = w' := by
  have ST := Lib.hid (wstate0 v w h)
  clear h
  go_enter Try.func69, Try.ntmps69
  go_wp2_with (go_at_call 46; refine (ST.out).mono ?_; rintro e w' ⟨rfl, rfl⟩)
  go_ret
  exact ⟨rfl, rfl⟩
set_option maxRecDepth 100000 in
theorem wDone0 (v : Value) (w : World) (h : Null w v) : Calls Try.prog 21 #[v] w fun e w' => e = .returned (.tuple #[.slice none 0 0, .int .i64 1]) ∧ w = w' := by
  have ST := Lib.hid (wstate0 v w h)
  clear h
  go_enter Try.func21, Try.ntmps21
  go_wp2_with (go_at_call 46; refine (ST.out).mono ?_; rintro e w' ⟨rfl, rfl⟩)
  go_ret2
  exact ⟨rfl, rfl⟩
set_option maxRecDepth 100000 in
theorem wN0 (v : Value) (x : Int) (w : World) (h : Null w v) : Calls Try.prog 44 #[v, .int .i64 x] w fun e w' => e = .returned (.int .i64 1) ∧ w = w' := by
  have ST := Lib.hid (wstate0 v w h)
  clear h
  go_enter Try.func44, Try.ntmps44
  go_wp2_with (go_at_call 46; refine (ST.out).mono ?_; rintro e w' ⟨rfl, rfl⟩)
  go_ret
  exact ⟨rfl, rfl⟩
set_option maxRecDepth 100000 in
theorem wU0 (v : Value) (x : Int) (w : World) (h : Null w v) (x0 : 0 ≤ x) (x1 : x ≤ 18446744073709551615) : Calls Try.prog 63 #[v, .int .u64 x] w fun e w' => e = .returned (.int .i64 1) ∧ Bel w w' := by
  have P1 := Lib.hid (fun w' => put x w' x0 x1)
  have WR := Lib.hid (fun s w' (hb : Bel w w') => write0 v s w' (h.bel hb))
  clear h x1
  go_enter Try.func63, Try.ntmps63
  go_wp2_with fail
  refine (P1.out _).mono ?_
  rintro e w1 ⟨u, rfl, hu, b1⟩
  have b1 : Bel w w1 := b1
  obtain ⟨Au, cu, hue, _⟩ := sl_of_own hu
  subst hue
  clear hu
  go_wp2_with fail
  refine (WR.out _ _ (b1.alloc _)).mono ?_
  rintro e w2 ⟨rfl, rfl⟩
  go_wp2
  go_ret
  exact ⟨rfl, b1.alloc _⟩
/-! ### Readers -/
set_option maxRecDepth 100000 in
theorem trouble0 (v : Value) (w : World) (h : Null w v) : Calls Try.prog 54 #[v] w fun e w' => e = .returned (.pointer (some ⟨w.heap.size, 0, none⟩)) ∧ w.alloc (.cells #[.int .i64 1, .int .i64 0] 33) = w' := by
  have hq := fun (b : Nat) (w : World) => neq_nil (w := w) 47 78 ⟨b, 0, none⟩ Try.underlying47
  rcases h with rfl | ⟨b, rfl, c0⟩
  all_goals
    go_enter Try.func54, Try.ntmps54
    go_wp2
    go_ret
    exact ⟨rfl, rfl⟩
set_option maxRecDepth 100000 in
theorem rAt0 (v : Value) (w : World) (h : Null w v) : Calls Try.prog 27 #[v] w fun e w' => e = .returned (.int .i64 0) ∧ Bel w w' := by
  have TR := Lib.hid (trouble0 v w h)
  clear h
  go_enter Try.func27, Try.ntmps27
  go_wp2_with (go_at_call 54; refine (TR.out).mono ?_; rintro e w' ⟨rfl, rfl⟩)
  go_ret
  exact ⟨rfl, (Bel.refl _).alloc _⟩
set_option maxRecDepth 100000 in
theorem rLeft0 (v : Value) (w : World) (h : Null w v) : Calls Try.prog 29 #[v] w fun e w' => e = .returned (.int .i64 0) ∧ Bel w w' := by
  have TR := Lib.hid (trouble0 v w h)
  clear h
  go_enter Try.func29, Try.ntmps29
  go_wp2_with (go_at_call 54; refine (TR.out).mono ?_; rintro e w' ⟨rfl, rfl⟩)
  go_ret
  exact ⟨rfl, (Bel.refl _).alloc _⟩
set_option maxRecDepth 100000 in
theorem rFail0 (v : Value) (e p : Int) (w : World) (h : Null w v) : Calls Try.prog 50 #[v, .int .i64 e, .int .i64 p] w fun r w' => r = .returned (.tuple #[]) ∧ Bel w w' := by
  have TR := Lib.hid (trouble0 v w h)
  clear h
  by_cases he : e = 0
  · have fe : (e != 0) = false := by rw [he]; rfl
    clear he
    go_enter Try.func50, Try.ntmps50
    go_wp2
    go_end0
    exact ⟨rfl, Bel.refl _⟩
  · have fe : (e != 0) = true := by rw [bne_iff_ne]; exact he
    clear he
    go_enter Try.func50, Try.ntmps50
    go_wp2_with (go_at_call 54; refine (TR.out).mono ?_; rintro r w' ⟨rfl, rfl⟩)
    go_end0
    exact ⟨rfl, (Bel.refl _).alloc _⟩
set_option maxRecDepth 100000 in
theorem rEnd0 (v : Value) (w : World) (h : Null w v) : Calls Try.prog 31 #[v] w fun e w' => e = .returned (.agg #[.int .i64 1, .int .i64 0]) ∧ Bel w w' := by
  have TR := Lib.hid (fun w' (hb : Bel w w') => trouble0 v w' (h.bel hb))
  clear h
  go_enter Try.func31, Try.ntmps31
  go_wp2_with (go_at_call 54; refine (TR.out _ ((Bel.refl _).alloc _)).mono ?_; rintro e w' ⟨rfl, rfl⟩)
  refine bodyPost_ret (v := .agg #[.int .i64 1, .int .i64 0]) (by simp [results, Try.results31, go_sem]) rfl ⟨rfl, ?_⟩
  exact (((Bel.refl _).alloc _).alloc _)
set_option maxRecDepth 100000 in
theorem rN0 (v : Value) (p q : Int) (w : World) (h : Null w v) : Calls Try.prog 49 #[v, .int .i64 p, .int .i64 q] w fun e w' => e = .returned (.int .i64 0) ∧ Bel w w' := by
  have IT : Hid (∀ fn w1, Bel w w1 → Calls Try.prog 65 #[v, fn] w1 fun e w' => e = .returned (.int .i64 0) ∧ Bel w w') := fun fn w1 hb => by
    have TR := Lib.hid (trouble0 v w1 (h.bel hb))
    have HB := Lib.hid hb
    clear h hb
    go_enter Try.func65, Try.ntmps65
    go_wp2_with (go_at_call 54; refine (TR.out).mono ?_; rintro e w' ⟨rfl, rfl⟩)
    go_ret
    exact ⟨rfl, HB.out.alloc _⟩
  clear h
  go_enter Try.func49, Try.ntmps49
  go_wp2_with fail
  refine (IT.out _ _ (((Bel.refl _).alloc _).alloc _)).mono ?_
  rintro e w' ⟨rfl, hb⟩
  have HB := Lib.hid hb
  clear hb
  go_wp2
  go_ret
  exact ⟨rfl, HB.out⟩
end Cd
end Go.Proofs.Ytagcpphkabkgjaa
