/-
  What roster's small functions, permits and agrees answer, and the map of operators. Condition: operators are ints.
-/
import Derived.Test.YtpfdakkameifkaaRo3
import Derived.Test.YtpfdakkameifkaaMs
import Derived.Maps.Keyed
namespace Go.Proofs.Ytpfdakkameifkaa
open Go.RowKit Go.Shelf
set_option linter.unusedVariables false
set_option linter.unusedSimpArgs false
namespace Ro
open Kk Pm Go.Maps Go.WideElems Go.WideMaps

def I64 (x : Int) : Prop := -9223372036854775808 ≤ x ∧ x ≤ 9223372036854775807
theorem wf64 {a : Int} (h : I64 a) : (Lit.int .i64 a).wf = true := WalkArith.wf_i64 h
theorem underI : Try.prog.underlying 3 = some (.int .i64) := by kernel_rfl
theorem underM : Try.prog.underlying 69 = some (.map 3 3) := by kernel_rfl
theorem zeroI (w : World) : (zeroValue 3).run Try.prog w = .ok (.int .i64 0) w := by kernel_rfl
theorem kI : Keyed Try.prog 3 := int_keyed Try.underlying3
/-- A map of numbers, whose numbers are a function's. -/
def Mo (w : World) (b n : Nat) (f : Int → Option Nat) : Prop :=
  ∃ D : DataW Unit, w.ownsMap Try.prog 3 (plainElem Try.prog 3) b n D ∧ IsMap D ∧ ∀ o, I64 o → Maps.has D (.int .i64 o) = (f o).isSome ∧ D.atKey (.int .i64 o) (.lit (.int .i64 0)) = .lit (.int .i64 ((f o).getD 0 : Nat))
theorem mo_made (w : World) : Mo (w.alloc (.map #[] 0)) w.heap.size 0 (fun _ => none) :=
  ⟨.map [], World.ownsMap_made _ _ _ _, isMap_empty, fun o _ => ⟨rfl, rfl⟩⟩
theorem Mo.bel {w w' : World} {b n : Nat} {f : Int → Option Nat} (h : Mo w b n f) (hb : Bel w w') : Mo w' b n f := by
  obtain ⟨D, h1, h2⟩ := h
  exact ⟨D, h1.kept (row := none) ⟨hb.os, hb.tape, hb.output, hb.size, fun k hk _ => hb.block k hk⟩ (by simp), h2⟩
theorem Mo.lt {w : World} {b n : Nat} {f : Int → Option Nat} (h : Mo w b n f) : b < w.heap.size := by
  obtain ⟨D, h1, _⟩ := h
  exact h1.lt
set_option maxRecDepth 100000 in
theorem mo_look {w : World} {b n : Nat} {f : Int → Option Nat} (h : Mo w b n f) {o : Int} (ho : I64 o) : (Instr.lookup 69 (.map (some b)) (.int .i64 o) false).run Try.prog w = .ok (.int .i64 ((f o).getD 0 : Nat)) w := by
  obtain ⟨D, h1, _, h2⟩ := h
  obtain ⟨c, h3, h4, _⟩ := h1.lookup_int kI underM underI (zeroI w) (keyOf_int_mk underI (wf64 ho))
  rw [(h2 o ho).2] at h4
  injection h4 with h4
  injection h4 with _ h4
  rw [h3, ← h4]
set_option maxRecDepth 100000 in
theorem mo_look_ok {w : World} {b n : Nat} {f : Int → Option Nat} (h : Mo w b n f) {o : Int} (ho : I64 o) : (Instr.lookup 69 (.map (some b)) (.int .i64 o) true).run Try.prog w = .ok (.tuple #[.int .i64 ((f o).getD 0 : Nat), .bool (f o).isSome]) w := by
  obtain ⟨D, h1, _, h2⟩ := h
  obtain ⟨v, ps, h3, h4⟩ := h1.look_ok kI underM (zeroI w) (plainElem_int underI (by decide)) (keyOf_int_mk underI (wf64 ho))
  rw [(h2 o ho).1] at h3
  rw [(h2 o ho).2] at h4
  obtain ⟨a, rfl, h5, _⟩ := plainElem_int_inv underI h4
  injection h5 with h5 _
  injection h5 with h5
  injection h5 with _ h5
  rw [h3, ← h5]
theorem mo_put {w : World} {b n : Nat} {f : Int → Option Nat} (h : Mo w b n f) (hn : n < 1000000001) {o : Int} (ho : I64 o) {i : Nat} (hi : i ≤ 1000000000) :
    ∃ w', (Instr.mapUpdate 69 (.map (some b)) (.int .i64 o) (.int .i64 (i : Int))).run Try.prog w = .ok () w' ∧ w.grownBy w' (some b) ∧ Mo w' b (n + 1) (fun x => if x = o then some i else f x) := by
  obtain ⟨D, h1, hm, h2⟩ := h
  obtain ⟨w', h3, h4, h5⟩ := h1.update kI underM (by unfold maxLen; omega) (keyOf_int_mk underI (wf64 ho)) (plainElem_int underI (wf64 (show I64 (i : Int) by unfold I64; omega)))
  refine ⟨w', h3, h5, _, h4, hm.put _ _, fun x hx => ?_⟩
  show Maps.has _ _ = (if x = o then some i else f x).isSome ∧ DataW.atKey _ _ _ = DataW.lit (.int .i64 (((if x = o then some i else f x).getD 0 : Nat) : Int))
  by_cases he : x = o
  · subst he
    rw [if_pos rfl]
    have hk : WideAt.IsKeyLit (.int .i64 x) := kI.key (keyOf_int_mk underI (wf64 hx))
    exact ⟨has_put_same hm hk _, atKey_put_same hm hk _ _⟩
  · rw [if_neg he]
    have hne : (Lit.int .i64 x) ≠ (Lit.int .i64 o) := fun e => he (by injection e)
    exact ⟨by rw [has_put_other hne]; exact (h2 x hx).1, by rw [atKey_put_other hne]; exact (h2 x hx).2⟩

theorem isAccount (x : Int) (w : World) : Calls Try.prog 52 #[.int .i64 x] w fun e w' => e = .returned (.bool (decide (0 ≤ x ∧ x < 64))) ∧ w = w' := by
  go_enter Try.func52, Try.ntmps52
  by_cases h : 0 ≤ x
  · by_cases h2 : x < 64
    · have hd : decide (0 ≤ x ∧ x < 64) = true := decide_eq_true ⟨h, h2⟩
      rw [hd]
      go_wp2
      go_ret
      exact ⟨rfl, rfl⟩
    · have hd : decide (0 ≤ x ∧ x < 64) = false := decide_eq_false (by omega)
      rw [hd]
      go_wp2
      go_ret
      exact ⟨rfl, rfl⟩
  · have hd : decide (0 ≤ x ∧ x < 64) = false := decide_eq_false (by omega)
    rw [hd]
    go_wp2
    go_ret
    exact ⟨rfl, rfl⟩
theorem isStatus (x : Int) (w : World) : Calls Try.prog 54 #[.int .i64 x] w fun e w' => e = .returned (.bool (decide (1 ≤ x ∧ x ≤ 4))) ∧ w = w' := by
  go_enter Try.func54, Try.ntmps54
  by_cases h : 1 ≤ x
  · by_cases h2 : x ≤ 4
    · have hd : decide (1 ≤ x ∧ x ≤ 4) = true := decide_eq_true ⟨h, h2⟩
      rw [hd]
      go_wp2
      go_ret
      exact ⟨rfl, rfl⟩
    · have hd : decide (1 ≤ x ∧ x ≤ 4) = false := decide_eq_false (by omega)
      rw [hd]
      go_wp2
      go_ret
      exact ⟨rfl, rfl⟩
  · have hd : decide (1 ≤ x ∧ x ≤ 4) = false := decide_eq_false (by omega)
    rw [hd]
    go_wp2
    go_ret
    exact ⟨rfl, rfl⟩
theorem isUntil (x : Int) (w : World) : Calls Try.prog 55 #[.int .i64 x] w fun e w' => e = .returned (.bool (untB x)) ∧ w = w' := by
  unfold untB
  go_enter Try.func55, Try.ntmps55
  by_cases h : 1 ≤ x
  · by_cases h2 : x ≤ 4296015872
    · have hd : decide (1 ≤ x ∧ x ≤ 4296015872) = true := decide_eq_true ⟨h, h2⟩
      rw [hd]
      go_wp2
      go_ret
      exact ⟨rfl, rfl⟩
    · have hd : decide (1 ≤ x ∧ x ≤ 4296015872) = false := decide_eq_false (by omega)
      rw [hd]
      go_wp2
      go_ret
      exact ⟨rfl, rfl⟩
  · have hd : decide (1 ≤ x ∧ x ≤ 4296015872) = false := decide_eq_false (by omega)
    rw [hd]
    go_wp2
    go_ret
    exact ⟨rfl, rfl⟩
theorem untilR (x : Int) (w : World) : Calls Try.prog 66 #[.int .i64 x] w fun e w' => e = .returned (.bool (untB x)) ∧ w = w' := by
  unfold untB
  go_enter Try.func66, Try.ntmps66
  by_cases h : 1 ≤ x
  · by_cases h2 : x ≤ 4296015872
    · have hd : decide (1 ≤ x ∧ x ≤ 4296015872) = true := decide_eq_true ⟨h, h2⟩
      rw [hd]
      go_wp2
      go_ret
      exact ⟨rfl, rfl⟩
    · have hd : decide (1 ≤ x ∧ x ≤ 4296015872) = false := decide_eq_false (by omega)
      rw [hd]
      go_wp2
      go_ret
      exact ⟨rfl, rfl⟩
  · have hd : decide (1 ≤ x ∧ x ≤ 4296015872) = false := decide_eq_false (by omega)
    rw [hd]
    go_wp2
    go_ret
    exact ⟨rfl, rfl⟩
theorem isClass (x : Int) (w : World) : Calls Try.prog 69 #[.int .i64 x] w fun e w' => e = .returned (.bool (decide (x = 1 ∨ x = 2))) ∧ w = w' := by
  go_enter Try.func69, Try.ntmps69
  by_cases h : x = 1
  · subst h
    go_wp2
    go_ret
    exact ⟨rfl, rfl⟩
  · have hb : (x == 1) = false := beq_eq_false_iff_ne.2 h
    by_cases h2 : x = 2
    · subst h2
      go_wp2
      go_ret
      exact ⟨rfl, rfl⟩
    · have hb2 : (x == 2) = false := beq_eq_false_iff_ne.2 h2
      have hd : decide (x = 1 ∨ x = 2) = false := decide_eq_false (by omega)
      rw [hd]
      clear hd h h2
      go_wp2
      go_ret
      exact ⟨rfl, rfl⟩

/-- What a status permits. -/
def rts (s : Int) : Value := .agg #[.bool (!decide (s = 4)), .bool (decide (s = 1) || decide (s = 2)), .bool (decide (s = 2))]
end Ro
end Go.Proofs.Ytpfdakkameifkaa
