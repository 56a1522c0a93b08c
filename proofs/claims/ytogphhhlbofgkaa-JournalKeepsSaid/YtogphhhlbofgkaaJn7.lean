/-
  A journal's changes: the iterator over a level's changes. Conditions: the journal lies in memory as JX says; the level is open.
-/
import Derived.Test.YtogphhhlbofgkaaJn6
namespace Go.Proofs.Ytogphhhlbofgkaa
open Go.RowKit Go.Shelf Go.Maps
set_option linter.unusedVariables false
attribute [local go_sem] Oper.semAt_some
namespace Jn
open Kk Pm Bk

theorem seq (n : Nat) (hn : 1 ≤ n) {I : Nat → Prop} {w0 : World} {x y : Nat} {p m : Option Addr} {t : List Ch} (hx : Blk w0 x #[.pointer p] 46) (hy : Blk w0 y #[.pointer m] 46) (hC : Chain I w0 p t m) (hM : Mk I w0 m) (hI : ∀ b, I b → b < w0.heap.size) :
    SeqStopsK Fence.wide n Try.prog 69 #[.pointer (some ⟨x, 0, none⟩), .pointer (some ⟨y, 0, none⟩)] (fun e : El I w0 t => #[Value.pointer (some ⟨e.1.1, 0, none⟩)]) (KpI I x y) (fun xs => xs.map (·.1.2) = t) (fun _ => True) t.length w0 :=
  fun l J Jx W hW hJ hJx hY h0 => iter_in I w0 x y p m t hx hy hC hM Fence.wide n trivial rfl hn l J Jx hY W (fun b hb => Below.block hW b (by
    rcases hb with hb | rfl | rfl
    · exact hI b hb
    · exact hx.lt
    · exact hy.lt)) h0

theorem two_new (w : World) (A B : Array Value) (s t : TypeId) : Blk (((w.alloc (.cells A s)).alloc (.cells B t)).drew) w.heap.size A s ∧ Blk (((w.alloc (.cells A s)).alloc (.cells B t)).drew) (w.heap.size + 1) B t ∧ Bel w (((w.alloc (.cells A s)).alloc (.cells B t)).drew) := by
  refine ⟨((Blk.new w A s).alloc _).bel ((Bel.refl _).drew), ?_, (((Bel.refl w).alloc _).alloc _).drew⟩
  have := Blk.new (w.alloc (.cells A s)) B t
  rw [World.size_alloc] at this
  exact this.bel ((Bel.refl _).drew)
set_option maxRecDepth 100000 in
set_option maxHeartbeats 2000000 in
theorem changes_top {w : World} {pj g k cp : Nat} {nw m : Option Addr} (c2 : w.cell? ⟨pj, 2, none⟩ = some (.pointer nw)) (c3 : w.cell? ⟨pj, 3, none⟩ = some (.slice (some ⟨g, 0, none⟩) (k + 1) cp)) (cm : w.cell? ⟨g, k * 2, none⟩ = some (.pointer m)) (hk : k ≤ 1000) :
    Calls Try.prog 43 #[.pointer (some ⟨pj, 0, none⟩), .int .i64 k] w fun e w' => ∃ x y, e = .returned (.func (.func 69) #[] #[.pointer (some ⟨x, 0, none⟩), .pointer (some ⟨y, 0, none⟩)]) ∧ Blk w' x #[.pointer nw] 46 ∧ Blk w' y #[.pointer m] 46 ∧ Bel w w' ∧ w.heap.size ≤ x ∧ w.heap.size ≤ y := by
  have b1 : ∀ o, Bel w (w.alloc o) := fun o => (Bel.refl w).alloc o
  have b2 : ∀ o o', Bel w ((w.alloc o).alloc o') := fun o o' => ((Bel.refl w).alloc o).alloc o'
  have c2a : ∀ o, (w.alloc o).cell? ⟨pj, 2, none⟩ = some (.pointer nw) := fun o => cell_bel c2 (b1 o)
  have c3a : ∀ o, (w.alloc o).cell? ⟨pj, 3, none⟩ = some (.slice (some ⟨g, 0, none⟩) (k + 1) cp) := fun o => cell_bel c3 (b1 o)
  have cma : ∀ o, (w.alloc o).cell? ⟨g, k * 2, none⟩ = some (.pointer m) := fun o => cell_bel cm (b1 o)
  have c2b : ∀ o o', ((w.alloc o).alloc o').cell? ⟨pj, 2, none⟩ = some (.pointer nw) := fun o o' => cell_bel c2 (b2 o o')
  have c3b : ∀ o o', ((w.alloc o).alloc o').cell? ⟨pj, 3, none⟩ = some (.slice (some ⟨g, 0, none⟩) (k + 1) cp) := fun o o' => cell_bel c3 (b2 o o')
  have cmb : ∀ o o', ((w.alloc o).alloc o').cell? ⟨g, k * 2, none⟩ = some (.pointer m) := fun o o' => cell_bel cm (b2 o o')
  clear b1 b2
  have hk1 : (k : Int) + 1 ≤ 1001 := by omega
  go_enter Try.func43, Try.ntmps43
  go_wp2_with fail
  go_region
  all_goals
    first
      | (obtain ⟨bx, by', hb⟩ := two_new w #[.pointer nw] #[.pointer m] 46 46
         obtain ⟨w1, hw1⟩ : ∃ w1, ((w.alloc (Obj.cells #[Value.pointer nw] 46)).alloc (Obj.cells #[Value.pointer m] 46)).drew = w1 := ⟨_, rfl⟩
         rw [hw1] at bx by' hb
         rw [hw1])
      | (obtain ⟨by', bx, hb⟩ := two_new w #[.pointer m] #[.pointer nw] 46 46
         obtain ⟨w1, hw1⟩ : ∃ w1, ((w.alloc (Obj.cells #[Value.pointer m] 46)).alloc (Obj.cells #[Value.pointer nw] 46)).drew = w1 := ⟨_, rfl⟩
         rw [hw1] at bx by' hb
         rw [hw1])
    have c3w := cell_bel c3 hb
    have BX := Lib.hid bx
    have BY := Lib.hid by'
    have HB := Lib.hid hb
    clear c2 c3 cm c2a c3a cma c2b c3b cmb bx by' hb hw1
    go_wp2
    go_ret
    exact ⟨_, _, rfl, BX.out, BY.out, HB.out, by omega, by omega⟩
end Jn
end Go.Proofs.Ytogphhhlbofgkaa
