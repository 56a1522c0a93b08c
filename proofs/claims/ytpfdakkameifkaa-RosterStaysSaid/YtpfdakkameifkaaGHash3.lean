/-
  What item of a reader answers in this program where the item is a hash.
  Conditions: the reader is one that NewReader made of at most 10^6 bytes.
-/
import Derived.Test.YtpfdakkameifkaaGHash2
namespace Go.Proofs.Ytpfdakkameifkaa
open Go.RowKit Go.Shelf
set_option linter.unusedVariables false
namespace Cd

abbrev FO : Obj := .cells #[.int .i64 0, .int .i64 0] 54
theorem z32_size : Z32.size = 32 := rfl

/-- What stands of a block that is to hold a hash, and of one that is to hold a fault. -/
theorem there_bel {w w' : World} {g : Nat} (h : w.there g 0 32) (hb : Bel w w') : w'.there g 0 32 := fun j hj => by
  obtain ⟨h1, h2⟩ := h j hj
  obtain ⟨v, hv⟩ := Option.isSome_iff_exists.1 h1
  have hl : g < w.heap.size := World.block_lt_of_cell? w _ hv
  refine ⟨?_, ?_⟩
  · rw [Below.cell (p := ⟨g, 0 + j, none⟩) hb hl]; exact h1
  · rw [Below.frozen (p := ⟨g, 0 + j, none⟩) hb hl]; exact h2
theorem r_self {w : World} {g : Nat} {Y : List Value} (h : w.there g 0 32) (hl : Y.length = 32) : (w.setCells g 0 Y).rangeAt g 0 Y := World.rangeAt_setCells_same w g 0 Y (by rw [hl]; exact h)
theorem cell_apart (w : World) (g : Nat) (vs : List Value) (c o : Nat) (h : c ≠ g) : (w.setCells g 0 vs).cell? ⟨c, o, none⟩ = w.cell? ⟨c, o, none⟩ :=
  World.cell?_setCells_out g vs 0 w ⟨c, o, none⟩ (fun hb _ => absurd hb h)
theorem frozen_apart (w : World) (g : Nat) (vs : List Value) (a : Addr) : (w.setCells g 0 vs).frozen? a = w.frozen? a := by rw [World.frozen?_setCells]
theorem blk_apart {w : World} {g c : Nat} {vs : List Value} {C : Array Value} {t : TypeId} (h : Blk w c C t) (hne : c ≠ g) : Blk (w.setCells g 0 vs) c C t := h.kep (kep_setCells g vs 0 w) hne
theorem bel_setCells {w w' : World} (h : Bel w w') {g : Nat} (hg : w.heap.size ≤ g) (vs : List Value) : Bel w (w'.setCells g 0 vs) := Kep.bel h (kep_setCells g vs 0 w') (fun i hi => by rw [hi]; exact hg)
theorem size_setCells (g : Nat) : ∀ (vs : List Value) (o : Nat) (w : World), (w.setCells g o vs).heap.size = w.heap.size
  | [], _, _ => rfl
  | v :: r, o, w => by
    rw [World.setCells, size_setCells g r (o + 1)]
    simp

abbrev Past (W w1 : World) (b : Nat) : Prop := Hid (Bel W w1) ∧ w1.heap.size ≠ b ∧ b ≠ w1.heap.size ∧ w1.heap.size + 1 ≠ b ∧ b ≠ w1.heap.size + 1
theorem past {W w1 : World} {b : Nat} (h : Bel W w1) (hb : b < W.heap.size) : Past W w1 b := by
  have := Below.size h
  exact ⟨h, by omega, by omega, by omega, by omega⟩
abbrev Emp (w1 : World) (g : Nat) : Prop := w1.cell? ⟨g, 0, none⟩ = some (.int .i64 0) ∧ w1.cell? ⟨g, 1, none⟩ = some (.int .i64 0) ∧ w1.frozen? ⟨g, 0, none⟩ = false ∧ w1.frozen? ⟨g, 1, none⟩ = false ∧ Hid (Blk w1 g #[.int .i64 0, .int .i64 0] 54)
theorem emp {W0 w1 : World} {g : Nat} (h : Blk W0 g #[.int .i64 0, .int .i64 0] 54) (hb : Bel W0 w1) : Emp w1 g :=
  ⟨(h.bel hb).cell 0 rfl, (h.bel hb).cell 1 rfl, (h.bel hb).frozen 0, (h.bel hb).frozen 1, h.bel hb⟩
theorem drew_there {w : World} {g : Nat} (h : w.there g 0 32) : w.drew.there g 0 32 := (World.there_drew w g 0 32).2 h
theorem blk_drew {w : World} {g : Nat} {C : Array Value} {t : TypeId} (h : Blk w g C t) : Blk w.drew g C t := h.bel ((Bel.refl w).drew)
/-- The five worlds in which the item may be asked for. -/
theorem at0 (W : World) (b : Nat) (hb : b < W.heap.size) : ∀ w1, Bel W.drew w1 → Past W w1 b := fun w1 h => past (((Bel.refl W).drew).trans h) hb
theorem results_c1 {fn : Func} {p : Tmp} {tp : TypeId} (h : fn.results = #[.cell p tp]) (tmps : Array Value) (w : World) (a : Addr) (X : Value)
    (hp : tmps.getD p undef = .pointer (some a)) (hX : (loadVar tp a).run Try.prog w = .ok X w) : (results fn tmps).run Try.prog w = .ok X w := by
  have hp' : tmps[p]?.getD undef = .pointer (some a) := by simpa using hp
  simp [results, h, hp', asAddr, hX]
theorem closed {W w2 : World} {gh g : Nat} {Y : List Value} {e bad tl : Int} (hT : w2.there gh 0 32) (hl : Y.length = 32) (hB : Blk w2 g #[.int .i64 0, .int .i64 0] 54) (hb : Bel W w2) (hgh : W.heap.size ≤ gh) (hg : W.heap.size ≤ g) (hne : g ≠ gh) :
    ∃ gh' g' : Nat, Value.pointer (some ⟨gh, 0, none⟩) = .pointer (some ⟨gh', 0, none⟩) ∧ Value.int .i64 tl = .int .i64 tl ∧ Value.pointer (some ⟨g, 0, none⟩) = .pointer (some ⟨g', 0, none⟩) ∧ W.heap.size ≤ gh' ∧ W.heap.size ≤ g' ∧ Hid ((((w2.setCells gh 0 Y).setCell ⟨g, 0, none⟩ (.int .i64 e)).setCell ⟨g, 1, none⟩ (.int .i64 bad)).rangeAt gh' 0 Y) ∧ Blk (((w2.setCells gh 0 Y).setCell ⟨g, 0, none⟩ (.int .i64 e)).setCell ⟨g, 1, none⟩ (.int .i64 bad)) g' #[.int .i64 e, .int .i64 bad] 54 ∧ Bel W (((w2.setCells gh 0 Y).setCell ⟨g, 0, none⟩ (.int .i64 e)).setCell ⟨g, 1, none⟩ (.int .i64 bad)) :=
  ⟨gh, g, rfl, rfl, rfl, hgh, hg, range_set (range_set (r_self hT hl) hne.symm 0 _) hne.symm 1 _, ((blk_apart hB hne).set 0 _).set 1 _, ((bel_setCells hb hgh Y).set hg _).set hg _⟩
theorem kep_new {S : Nat → Prop} {w w2 w3 : World} (h : Kep S w w2) (h3 : Kep (fun i => i = w.heap.size) w2 w3) : Kep S w w3 :=
  ⟨h3.os.trans h.os, h3.tape.trans h.tape, h3.output.trans h.output, Nat.le_trans h.size h3.size, fun i hi hs => (h3.block i (Nat.lt_of_lt_of_le hi h.size) (Nat.ne_of_lt hi)).trans (h.block i hi hs)⟩
theorem blk_second (w : World) (o : Obj) : Blk ((w.alloc o).alloc FO) (w.heap.size + 1) #[.int .i64 0, .int .i64 0] 54 := by
  have h := Blk.new (w.alloc o) #[.int .i64 0, .int .i64 0] 54
  rwa [World.size_alloc] at h

end Cd
end Go.Proofs.Ytpfdakkameifkaa
