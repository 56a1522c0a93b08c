/-
  Objects behind pointers: a block of cells, how it is read and turned. No condition.
-/
import Derived.LaidEql
import Derived.Test.YtcefjigbaglmeaaGreatGKit
namespace Go.Proofs.YtcefjigbaglmeaaGreat
open Go.RowKit Go.Shelf
set_option linter.unusedVariables false
namespace Cd

/-- A block of cells. -/
def Blk (w : World) (b : Nat) (cs : Array Value) (t : TypeId) : Prop := w.heap[b]? = some (.cells cs t (0, 0))
theorem Blk.lt {w : World} {b : Nat} {cs : Array Value} {t : TypeId} (h : Blk w b cs t) : b < w.heap.size := (Array.getElem?_eq_some_iff.1 h).1
theorem Blk.cell {w : World} {b : Nat} {cs : Array Value} {t : TypeId} (h : Blk w b cs t) (i : Nat) {v : Value} (hv : cs[i]? = some v) : w.cell? ⟨b, i, none⟩ = some v := by
  rw [cell_of_row w b i cs t (0, 0) h, hv]
theorem Blk.frozen {w : World} {b : Nat} {cs : Array Value} {t : TypeId} (h : Blk w b cs t) (i : Nat) : w.frozen? ⟨b, i, none⟩ = false := frozen_of_row w b i cs t h
theorem Blk.new (w : World) (cs : Array Value) (t : TypeId) : Blk (w.alloc (.cells cs t)) w.heap.size cs t := World.alloc_heap_new w _
theorem Blk.set {w : World} {b : Nat} {cs : Array Value} {t : TypeId} (h : Blk w b cs t) (i : Nat) (v : Value) : Blk (w.setCell ⟨b, i, none⟩ v) b (cs.setIfInBounds i v) t := heap_setCell_same w b i cs t v h
theorem Blk.other {w : World} {b : Nat} {cs : Array Value} {t : TypeId} (h : Blk w b cs t) {b' : Nat} (hne : b ≠ b') (i : Nat) (v : Value) : Blk (w.setCell ⟨b', i, none⟩ v) b cs t := (heap_setCell_other w ⟨b', i, none⟩ b v hne).trans h
theorem Blk.kep {S : Nat → Prop} {w w' : World} {b : Nat} {cs : Array Value} {t : TypeId} (h : Blk w b cs t) (hk : Kep S w w') (hs : ¬ S b) : Blk w' b cs t := (hk.block b h.lt hs).trans h
theorem Blk.bel {w w' : World} {b : Nat} {cs : Array Value} {t : TypeId} (h : Blk w b cs t) (hk : Bel w w') : Blk w' b cs t := (Below.block hk b h.lt).trans h
theorem Blk.alloc {w : World} {b : Nat} {cs : Array Value} {t : TypeId} (h : Blk w b cs t) (o : Obj) : Blk (w.alloc o) b cs t := h.bel ((Bel.refl w).alloc o)
/-- A row of bytes is no block of another type. -/
theorem Blk.not_row {w : World} {b : Nat} {cs : Array Value} {t e : TypeId} (h : Blk w b cs t) (hte : t ≠ e) {base size k : Nat} {v : Value} {xs : List Value} (hr : w.ownsRow base e size v k xs) : v.ownBlock ≠ some b := by
  rcases hr.2 with ⟨rfl, _⟩ | ⟨g, cap, cur, rfl, _, hgb, _⟩
  · simp [Value.ownBlock]
  · intro e'
    obtain rfl : g = b := by simpa [Value.ownBlock] using e'
    have := (show w.heap[g]? = _ from h).symm.trans hgb
    simp at this
    exact hte this.2
theorem owns_set {w : World} {base : Nat} {e : TypeId} {size : Nat} {v : Value} {n : Nat} {xs : List Value} (ho : w.ownsRow base e size v n xs) {b : Nat} (hne : v.ownBlock ≠ some b) (i : Nat) (u : Value) : (w.setCell ⟨b, i, none⟩ u).ownsRow base e size v n xs := by
  exact Kep.owns (S := fun k => k = b) (Kep.set (S := fun k => k = b) (Kep.refl _ w) (b := b) (o := i) rfl u) (fun k hk e => hne (by rw [hk, e])) ho

theorem eqIn_self {w : World} (d : Nat) (t e : TypeId) (a : Addr) (n : Nat) (ht : Tryz.prog.underlying t = some (.pointer e)) (he : ∀ w, (sizeOf e).run Tryz.prog w = .ok n w) (hn : n ≠ 0) : (Op.equalIn (d + 1) t (.pointer (some a)) (.pointer (some a))).run Tryz.prog w = .ok true w := by
  simp [Op.equalIn, run_underlying ht, he, run_sameAddr_same]
theorem neq_self {w : World} (t e : TypeId) (a : Addr) (n : Nat) (ht : Tryz.prog.underlying t = some (.pointer e)) (he : ∀ w, (sizeOf e).run Tryz.prog w = .ok n w) (hn : n ≠ 0) : (binOp .neq t (.pointer (some a)) (.pointer (some a))).run Tryz.prog w = .ok (.bool false) w := by
  simp only [binOp]
  simp [Op.equal, Op.maxDepth, eqIn_self 9999 t e a n ht he hn]

theorem Kep.set_self {b : Nat} {a w : World} (h : Kep (fun i => i = b) a w) (o : Nat) (u : Value) : Kep (fun i => i = b) a (w.setCell ⟨b, o, none⟩ u) := Kep.set (S := fun i => i = b) h (b := b) (o := o) rfl u

/-! ### Writers -/
/-- A writer: where it lies, its limit, its row, its error. -/
structure WS (w : World) (b : Nat) (L : Int) (v : Value) (err : Int) (out : List Int) (base : Nat) : Prop where
  blk : Blk w b #[.pointer (some ⟨b, 0, none⟩), .int .i64 L, v, .int .i64 err] 93
  row : w.ownsRow base 5 1 v out.length (out.map (Value.int .u8))
  low : 0 ≤ L
  high : L ≤ 1048576
  fits : (out.length : Int) ≤ L
  base : base ≤ w.heap.size
theorem WS.kep {S : Nat → Prop} {w w' : World} {b : Nat} {L : Int} {v : Value} {err : Int} {out : List Int} {base : Nat} (h : WS w b L v err out base) (hk : Kep S w w') (h1 : ¬ S b) (h2 : ∀ k, v.ownBlock = some k → ¬ S k) : WS w' b L v err out base :=
  ⟨h.blk.kep hk h1, hk.owns h2 h.row, h.low, h.high, h.fits, Nat.le_trans h.base hk.size⟩
theorem WS.bel {w w' : World} {b : Nat} {L : Int} {v : Value} {err : Int} {out : List Int} {base : Nat} (h : WS w b L v err out base) (hk : Bel w w') : WS w' b L v err out base :=
  h.kep (S := fun _ => False) (Kep.of_bel hk) id (fun _ _ => id)

theorem newWriter_no (L : Int) (w : World) (h : L < 0 ∨ 1048576 < L) :
    Calls Tryz.prog 20 #[.int .i64 L] w fun e w' => e = .returned (.tuple #[.pointer none, .int .i64 3]) ∧ w = w' := by
  by_cases h0 : L < 0
  · go_enter Tryz.func20, Tryz.ntmps20
    go_wp2
    go_ret2
    exact ⟨rfl, rfl⟩
  · have h1 : 1048576 < L := by omega
    clear h
    go_enter Tryz.func20, Tryz.ntmps20
    go_wp2
    go_ret2
    exact ⟨rfl, rfl⟩
theorem newWriter (L : Int) (w : World) (h0 : 0 ≤ L) (h1 : L ≤ 1048576) :
    Calls Tryz.prog 20 #[.int .i64 L] w fun e w' => e = .returned (.tuple #[.pointer (some ⟨w.heap.size, 0, none⟩), .int .i64 0]) ∧ WS w' w.heap.size L (.slice none 0 0) 0 [] w.heap.size ∧ Bel w w' := by
  go_enter Tryz.func20, Tryz.ntmps20
  go_wp2
  go_ret2
  refine ⟨rfl, ⟨?_, World.ownsRow_nil _ _ _ _, h0, h1, h0, by simp⟩, (Bel.refl _).alloc _⟩
  exact Blk.new _ _ _

theorem wneq (a : Addr) (w : World) : (binOp .neq 46 (.pointer (some a)) (.pointer (some a))).run Tryz.prog w = .ok (.bool false) w :=
  neq_self _ 93 a 4 Tryz.underlying46 (fun w => Tryz.sizeOf93 w) (by decide)

set_option maxRecDepth 100000 in
theorem wstate (b : Nat) (L : Int) (v : Value) (err : Int) (out : List Int) (base : Nat) (w : World) (h : WS w b L v err out base) :
    Calls Tryz.prog 53 #[.pointer (some ⟨b, 0, none⟩)] w fun e w' => e = .returned (.int .i64 err) ∧ w = w' := by
  have c0 : w.cell? ⟨b, 0, none⟩ = some (.pointer (some ⟨b, 0, none⟩)) := h.blk.cell 0 rfl
  have c3 : w.cell? ⟨b, 3, none⟩ = some (.int .i64 err) := h.blk.cell 3 rfl
  have hq := wneq ⟨b, 0, none⟩
  clear h
  go_enter Tryz.func53, Tryz.ntmps53
  go_wp2
  go_ret
  exact ⟨rfl, rfl⟩

set_option maxRecDepth 100000 in
theorem wfail (b : Nat) (L : Int) (v : Value) (out : List Int) (base : Nat) (r : Int) (w : World) (h : WS w b L v 0 out base) :
    Calls Tryz.prog 54 #[.pointer (some ⟨b, 0, none⟩), .int .i64 r] w fun e w' => e = .returned (.int .i64 r) ∧ WS w' b L (.slice none 0 0) r [] base ∧ Kep (fun k => k = b) w w' := by
  have c3 : w.cell? ⟨b, 3, none⟩ = some (.int .i64 0) := h.blk.cell 3 rfl
  have c2 : w.cell? ⟨b, 2, none⟩ = some v := h.blk.cell 2 rfl
  have f2 := h.blk.frozen 2
  have f3 := h.blk.frozen 3
  have H := Lib.hid h
  clear h
  go_enter Tryz.func54, Tryz.ntmps54
  go_wp2
  go_ret
  have B := (H.out.blk.set 3 (.int .i64 r)).set 2 (.slice none 0 0)
  exact ⟨rfl, ⟨B, World.ownsRow_nil _ _ _ _, H.out.low, H.out.high, H.out.low, Nat.le_trans H.out.base (Kep.set (Kep.set (S := fun k => k = b) (Kep.refl _ w) (b := b) (o := 3) rfl _) (b := b) (o := 2) rfl _).size⟩, Kep.set (Kep.set (S := fun k => k = b) (Kep.refl _ w) (b := b) (o := 3) rfl _) (b := b) (o := 2) rfl _⟩

theorem wdone_err (b : Nat) (L : Int) (v : Value) (r : Int) (out : List Int) (base : Nat) (w : World) (h : WS w b L v r out base) (hr : r ≠ 0) :
    Calls Tryz.prog 24 #[.pointer (some ⟨b, 0, none⟩)] w fun e w' => e = .returned (.tuple #[.slice none 0 0, .int .i64 r]) ∧ w = w' := by
  have ST := Lib.hid (wstate b L v r out base w h)
  have f : (r != 0) = true := by rw [bne_iff_ne]; exact hr
  clear h hr
  go_enter Tryz.func24, Tryz.ntmps24
  go_wp2_with fail
  refine (ST.out).mono ?_
  rintro e w1 ⟨rfl, rfl⟩
  go_wp2
  go_ret2
  exact ⟨rfl, rfl⟩
theorem wdone (b : Nat) (L : Int) (v : Value) (out : List Int) (base : Nat) (w : World) (h : WS w b L v 0 out base) :
    Calls Tryz.prog 24 #[.pointer (some ⟨b, 0, none⟩)] w fun e w' => ∃ u, e = .returned (.tuple #[u, .int .i64 0]) ∧ Fresh w w' u out := by
  obtain ⟨A, c, rfl, hs⟩ := sl_of_own h.row
  have ST := Lib.hid (wstate b L _ 0 out base w h)
  have hn : out.length ≤ 1000000000 := by have := h.fits; have := h.high; omega
  have CL := Lib.hid (clone A out.length c out w hs hn)
  have c2 : w.cell? ⟨b, 2, none⟩ = some (.slice A out.length c) := h.blk.cell 2 rfl
  clear h hs
  go_enter Tryz.func24, Tryz.ntmps24
  go_wp2_with fail
  refine (ST.out).mono ?_
  rintro e w1 ⟨rfl, rfl⟩
  go_wp2_with fail
  refine (CL.out).mono ?_
  rintro e w1 ⟨u, rfl, hu⟩
  have HU := Lib.hid hu
  clear hu
  go_wp2
  go_ret2
  exact ⟨u, rfl, HU.out⟩
end Cd
end Go.Proofs.YtcefjigbaglmeaaGreat
