/-
  What writers and readers answer in this program that are nil, or that nobody made: they have nothing.
  Conditions: nil, or an object whose first cell is nil.
-/
import Derived.Test.YtejbhfcmhijfcaaCodecOne
namespace Go.Proofs.Ytejbhfcmhijfcaa
open Go.RowKit Go.Shelf
set_option linter.unusedVariables false
namespace Cd

theorem eqIn_nil {w : World} (d : Nat) (t e : TypeId) (a : Addr) (ht : Try.prog.underlying t = some (.pointer e)) : (Op.equalIn (d + 1) t (.pointer none) (.pointer (some a))).run Try.prog w = .ok false w := by
  simp [Op.equalIn, run_underlying ht]
theorem neq_nil {w : World} (t e : TypeId) (a : Addr) (ht : Try.prog.underlying t = some (.pointer e)) : (binOp .neq t (.pointer none) (.pointer (some a))).run Try.prog w = .ok (.bool true) w := by
  simp only [binOp]
  simp [Op.equal, Op.maxDepth, eqIn_nil 9999 t e a ht]
/-- Nil, or made by nobody. -/
def Null (w : World) (v : Value) : Prop := v = .pointer none ∨ ∃ b, v = .pointer (some ⟨b, 0, none⟩) ∧ w.cell? ⟨b, 0, none⟩ = some (.pointer none)
theorem Null.bel {w w' : World} {v : Value} (h : Null w v) (hb : Bel w w') : Null w' v := by
  rcases h with rfl | ⟨b, rfl, hc⟩
  · exact .inl rfl
  · exact .inr ⟨b, rfl, bel_cell hb hc⟩

set_option maxRecDepth 100000 in
theorem wstate0 (v : Value) (w : World) (h : Null w v) : Calls Try.prog 55 #[v] w fun e w' => e = .returned (.int .i64 1) ∧ w = w' := by
  have hq := fun (b : Nat) (w : World) => neq_nil (w := w) 50 52 ⟨b, 0, none⟩ Try.underlying50
  rcases h with rfl | ⟨b, rfl, c0⟩
  all_goals
    go_enter Try.func55, Try.ntmps55
    go_wp2
    go_ret
    exact ⟨rfl, rfl⟩
set_option maxRecDepth 100000 in
theorem write0 (v s : Value) (w : World) (h : Null w v) : Calls Try.prog 56 #[v, s] w fun e w' => e = .returned (.int .i64 1) ∧ w = w' := by
  have ST := Lib.hid (wstate0 v w h)
  clear h
  go_enter Try.func56, Try.ntmps56
  go_wp2_with (go_at_call 55; refine (ST.out).mono ?_; rintro e w' ⟨rfl, rfl⟩)
  go_ret
  exact ⟨rfl, rfl⟩
set_option maxRecDepth 100000 in
theorem wDone0 (v : Value) (w : World) (h : Null w v) : Calls Try.prog 28 #[v] w fun e w' => e = .returned (.tuple #[.slice none 0 0, .int .i64 1]) ∧ w = w' := by
  have ST := Lib.hid (wstate0 v w h)
  clear h
  go_enter Try.func28, Try.ntmps28
  go_wp2_with (go_at_call 55; refine (ST.out).mono ?_; rintro e w' ⟨rfl, rfl⟩)
  go_ret2
  exact ⟨rfl, rfl⟩
set_option maxRecDepth 100000 in
theorem wN0 (v : Value) (x : Int) (w : World) (h : Null w v) : Calls Try.prog 30 #[v, .int .i64 x] w fun e w' => e = .returned (.int .i64 1) ∧ w = w' := by
  have ST := Lib.hid (wstate0 v w h)
  clear h
  go_enter Try.func30, Try.ntmps30
  go_wp2_with (go_at_call 55; refine (ST.out).mono ?_; rintro e w' ⟨rfl, rfl⟩)
  go_ret
  exact ⟨rfl, rfl⟩
set_option maxRecDepth 100000 in
theorem wU0 (v : Value) (x : Int) (w : World) (h : Null w v) (x0 : 0 ≤ x) (x1 : x ≤ 18446744073709551615) : Calls Try.prog 29 #[v, .int .u64 x] w fun e w' => e = .returned (.int .i64 1) ∧ Bel w w' := by
  have P1 := Lib.hid (fun w' => put x w' x0 x1)
  have WR := Lib.hid (fun s w' (hb : Bel w w') => write0 v s w' (h.bel hb))
  clear h x1
  go_enter Try.func29, Try.ntmps29
  go_wp2_with fail
  refine (P1.out _).mono ?_
  rintro e w1 ⟨u, rfl, hu, b1⟩
  have b1 : Bel w w1 := b1
  obtain ⟨Au, cu, hue, _⟩ := sl_of_own hu
  subst hue
  clear hu
  go_wp2_with fail
  refine (WR.out _ _ (b1.alloc _)).mono ?_
  rintro e w2 ⟨rfl, rfl⟩
  go_wp2
  go_ret
  exact ⟨rfl, b1.alloc _⟩
set_option maxRecDepth 100000 in
theorem wBlob0 (v : Value) (A : Option Addr) (n c : Nat) (w : World) (h : Null w v) (hn : n ≤ 1000000) : Calls Try.prog 32 #[v, .slice A n c] w fun e w' => e = .returned (.int .i64 1) ∧ Bel w w' := by
  have P1 := Lib.hid (fun w' => put (n : Int) w' (by omega) (by omega))
  have WR := Lib.hid (fun s w' (hb : Bel w w') => write0 v s w' (h.bel hb))
  have e1 : IntKind.u64.wrap (n : Int) = (n : Int) := by rw [IntKind.wrap_u64]; omega
  clear h
  go_enter Try.func32, Try.ntmps32
  go_wp2_with fail
  refine (P1.out _).mono ?_
  rintro e w1 ⟨u, rfl, hu, b1⟩
  have b1 : Bel w w1 := b1
  obtain ⟨Au, cu, hue, _⟩ := sl_of_own hu
  subst hue
  clear hu
  go_wp2_with fail
  refine (WR.out _ _ (b1.alloc _)).mono ?_
  rintro e w2 ⟨rfl, rfl⟩
  go_wp2
  go_ret
  exact ⟨rfl, b1.alloc _⟩
set_option maxRecDepth 100000 in
theorem wHash0 (v : Value) (hs : List Int) (w : World) (h : Null w v) (hl : hs.length = 32) : Calls Try.prog 31 #[v, hash hs] w fun e w' => e = .returned (.int .i64 1) ∧ Bel w w' := by
  have WR := Lib.hid (fun s w' (hb : Bel w w') => write0 v s w' (h.bel hb))
  clear h hl
  go_enter Try.func31, Try.ntmps31
  go_wp2_with fail
  refine (WR.out _ _ (((Bel.refl _).alloc _).alloc _)).mono ?_
  rintro e w2 ⟨rfl, rfl⟩
  go_wp2
  go_ret
  exact ⟨rfl, ((Bel.refl _).alloc _).alloc _⟩

/-! ### Readers -/
set_option maxRecDepth 100000 in
theorem trouble0 (v : Value) (w : World) (h : Null w v) : Calls Try.prog 54 #[v] w fun e w' => e = .returned (.pointer (some ⟨w.heap.size, 0, none⟩)) ∧ w.alloc (.cells #[.int .i64 1, .int .i64 0] 29) = w' := by
  have hq := fun (b : Nat) (w : World) => neq_nil (w := w) 38 62 ⟨b, 0, none⟩ Try.underlying38
  rcases h with rfl | ⟨b, rfl, c0⟩
  all_goals
    go_enter Try.func54, Try.ntmps54
    go_wp2
    go_ret
    exact ⟨rfl, rfl⟩
set_option maxRecDepth 100000 in
theorem rAt0 (v : Value) (w : World) (h : Null w v) : Calls Try.prog 22 #[v] w fun e w' => e = .returned (.int .i64 0) ∧ Bel w w' := by
  have TR := Lib.hid (trouble0 v w h)
  clear h
  go_enter Try.func22, Try.ntmps22
  go_wp2_with (go_at_call 54; refine (TR.out).mono ?_; rintro e w' ⟨rfl, rfl⟩)
  go_ret
  exact ⟨rfl, (Bel.refl _).alloc _⟩
set_option maxRecDepth 100000 in
theorem rLeft0 (v : Value) (w : World) (h : Null w v) : Calls Try.prog 24 #[v] w fun e w' => e = .returned (.int .i64 0) ∧ Bel w w' := by
  have TR := Lib.hid (trouble0 v w h)
  clear h
  go_enter Try.func24, Try.ntmps24
  go_wp2_with (go_at_call 54; refine (TR.out).mono ?_; rintro e w' ⟨rfl, rfl⟩)
  go_ret
  exact ⟨rfl, (Bel.refl _).alloc _⟩
set_option maxRecDepth 100000 in
theorem rFail0 (v : Value) (e p : Int) (w : World) (h : Null w v) : Calls Try.prog 33 #[v, .int .i64 e, .int .i64 p] w fun r w' => r = .returned (.tuple #[]) ∧ Bel w w' := by
  have TR := Lib.hid (trouble0 v w h)
  clear h
  by_cases he : e = 0
  · have fe : (e != 0) = false := by rw [he]; rfl
    clear he
    go_enter Try.func33, Try.ntmps33
    go_wp2
    go_end0
    exact ⟨rfl, Bel.refl _⟩
  · have fe : (e != 0) = true := by rw [bne_iff_ne]; exact he
    clear he
    go_enter Try.func33, Try.ntmps33
    go_wp2_with (go_at_call 54; refine (TR.out).mono ?_; rintro r w' ⟨rfl, rfl⟩)
    go_end0
    exact ⟨rfl, (Bel.refl _).alloc _⟩
set_option maxRecDepth 100000 in
theorem rEnd0 (v : Value) (w : World) (h : Null w v) : Calls Try.prog 26 #[v] w fun e w' => e = .returned (.agg #[.int .i64 1, .int .i64 0]) ∧ Bel w w' := by
  have TR := Lib.hid (fun w' (hb : Bel w w') => trouble0 v w' (h.bel hb))
  clear h
  go_enter Try.func26, Try.ntmps26
  go_wp2_with (go_at_call 54; refine (TR.out _ ((Bel.refl _).alloc _)).mono ?_; rintro e w' ⟨rfl, rfl⟩)
  refine bodyPost_ret (v := .agg #[.int .i64 1, .int .i64 0]) (by simp [results, Try.results26, go_sem]) rfl ⟨rfl, ?_⟩
  exact (((Bel.refl _).alloc _).alloc _)
set_option maxRecDepth 100000 in
theorem rU0 (v : Value) (w : World) (h : Null w v) : Calls Try.prog 34 #[v] w fun e w' => e = .returned (.int .u64 0) ∧ Bel w w' := by
  have TR := Lib.hid (trouble0 v w h)
  have IT : Hid (∀ fn, Calls Try.prog 58 #[v, fn] w fun e w' => e = .returned (.int .u64 0) ∧ Bel w w') := fun fn => by
    go_enter Try.func58, Try.ntmps58
    go_wp2_with (go_at_call 54; refine (TR.out).mono ?_; rintro e w' ⟨rfl, rfl⟩)
    go_ret
    exact ⟨rfl, (Bel.refl _).alloc _⟩
  clear h TR
  go_enter Try.func34, Try.ntmps34
  go_wp2_with fail
  refine (IT.out _).mono ?_
  rintro e w' ⟨rfl, hb⟩
  have HB := Lib.hid hb
  clear hb
  go_wp2
  go_ret
  exact ⟨rfl, HB.out⟩
set_option maxRecDepth 100000 in
theorem rN0 (v : Value) (p q : Int) (w : World) (h : Null w v) : Calls Try.prog 35 #[v, .int .i64 p, .int .i64 q] w fun e w' => e = .returned (.int .i64 0) ∧ Bel w w' := by
  have IT : Hid (∀ fn w1, Bel w w1 → Calls Try.prog 59 #[v, fn] w1 fun e w' => e = .returned (.int .i64 0) ∧ Bel w w') := fun fn w1 hb => by
    have TR := Lib.hid (trouble0 v w1 (h.bel hb))
    have HB := Lib.hid hb
    clear h hb
    go_enter Try.func59, Try.ntmps59
    go_wp2_with (go_at_call 54; refine (TR.out).mono ?_; rintro e w' ⟨rfl, rfl⟩)
    go_ret
    exact ⟨rfl, HB.out.alloc _⟩
  clear h
  go_enter Try.func35, Try.ntmps35
  go_wp2_with fail
  refine (IT.out _ _ (((Bel.refl _).alloc _).alloc _)).mono ?_
  rintro e w' ⟨rfl, hb⟩
  have HB := Lib.hid hb
  clear hb
  go_wp2
  go_ret
  exact ⟨rfl, HB.out⟩
set_option maxRecDepth 100000 in
theorem rBlob0 (v : Value) (q : Int) (w : World) (h : Null w v) : Calls Try.prog 37 #[v, .int .i64 q] w fun e w' => e = .returned (.slice none 0 0) ∧ Bel w w' := by
  have IT : Hid (∀ fn w1, Bel w w1 → Calls Try.prog 63 #[v, fn] w1 fun e w' => e = .returned (.slice none 0 0) ∧ Bel w w') := fun fn w1 hb => by
    have TR := Lib.hid (trouble0 v w1 (h.bel hb))
    have HB := Lib.hid hb
    clear h hb
    go_enter Try.func63, Try.ntmps63
    go_wp2_with (go_at_call 54; refine (TR.out).mono ?_; rintro e w' ⟨rfl, rfl⟩)
    go_ret
    exact ⟨rfl, HB.out.alloc _⟩
  clear h
  go_enter Try.func37, Try.ntmps37
  go_wp2_with fail
  refine (IT.out _ _ ((Bel.refl _).alloc _)).mono ?_
  rintro e w' ⟨rfl, hb⟩
  have HB := Lib.hid hb
  clear hb
  go_wp2
  go_ret
  exact ⟨rfl, HB.out⟩
end Cd
end Go.Proofs.Ytejbhfcmhijfcaa
