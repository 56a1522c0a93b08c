/-
  Texts of this claim, put together: Hash, Hash2, Hash3, Hash4, OneMath, OneItems, ReadN0, ReadY. What each one says, and under which conditions, stands ahead of it.
-/
import Derived.Deep.MidRow
import Derived.Laws.CopyOwn
import Derived.Test.YtpohcdfmkcfonaaGreatDoorWA
import Derived.Test.YtpohcdfmkcfonaaGreatDoorRA

section
/-
  What Hash of a writer and of a reader answer in this program.
  Conditions: objects that were made; a hash of 32 bytes.
-/
namespace Go.Proofs.YtpohcdfmkcfonaaGreatDoor
open Go.RowKit Go.Shelf
set_option linter.unusedVariables false
namespace Cd

/-- A hash, as the program keeps it: 32 bytes. -/
abbrev hash (hs : List Int) : Value := .agg (hs.map (Value.int .u8)).toArray

theorem sl_box (w : World) (hs : List Int) (t : TypeId) (h : hs.length = 32) : Sl (w.alloc (.cells (hs.map (Value.int .u8)).toArray t)) (some ⟨w.heap.size, 0, none⟩) 32 32 hs := by
  refine ⟨⟨h, fun hn => ⟨w.heap.size, 0, rfl, by simp, fun i hi => ?_⟩⟩, Nat.le_refl _, fun h => by cases h⟩
  rw [Nat.zero_add, World.cell?_alloc_new, List.getElem?_toArray, List.getElem?_map, List.getElem?_eq_getElem (by omega), getD_eq _ _ (by omega)]
  rfl

theorem zero_hash : (List.replicate 32 (0 : Int)).map (Value.int .u8) = List.replicate 32 (Value.int .u8 0) := by simp

theorem range_new {w : World} {C : Array Value} {t : TypeId} : (w.alloc (.cells C t)).rangeAt w.heap.size 0 C.toList := fun j v hv => by
  rw [Nat.zero_add]
  exact (Blk.new w C t).cell j (by simpa using hv)
theorem there_new {w : World} {C : Array Value} {t : TypeId} {n : Nat} (h : n ≤ C.size) : (w.alloc (.cells C t)).there w.heap.size 0 n := fun j hj => by
  rw [Nat.zero_add]
  refine ⟨?_, (Blk.new w C t).frozen j⟩
  rw [(Blk.new w C t).cell j (Array.getElem?_eq_getElem (by omega))]
  rfl
theorem cell_far {w : World} {b : Nat} {vs : List Value} {c o : Nat} {v : Value} (h : w.cell? ⟨c, o, none⟩ = some v) (hne : c ≠ b) : (w.setCells b 0 vs).cell? ⟨c, o, none⟩ = some v := by
  have h1 : w.rangeAt c o [v] := fun j u hu => by
    match j, hu with
    | 0, hu => simp at hu; subst hu; exact h
  have := World.rangeAt_setCells_apart h1 b 0 vs (.inl hne) 0 v rfl
  simpa using this
theorem frozen_far {w : World} {b : Nat} {vs : List Value} {c o : Nat} {v : Value} (h : w.cell? ⟨c, o, none⟩ = some v) (hf : w.frozen? ⟨c, o, none⟩ = false) : (w.setCells b 0 vs).frozen? ⟨c, o, none⟩ = false := by
  have h1 : w.there c o 1 := fun j hj => by
    obtain rfl : j = 0 := by omega
    exact ⟨by rw [Nat.add_zero, h]; rfl, hf⟩
  have := (World.there_setCells h1 b 0 vs 0 (by omega)).2
  simpa using this
theorem kep_setCells (b : Nat) : ∀ (vs : List Value) (o : Nat) (w : World), Kep (fun i => i = b) w (w.setCells b o vs) := by
  intro vs
  induction vs with
  | nil => intro o w; exact Kep.refl _ _
  | cons v vs ih => intro o w; exact (Kep.set_self (Kep.refl _ w) o v).trans (ih (o + 1) _)

theorem range_kep {S : Nat → Prop} {w w' : World} {b o : Nat} {cs : List Value} (h : w.rangeAt b o cs) (hk : Kep S w w') (hs : ¬ S b) : w'.rangeAt b o cs := fun j v hv => hk.cell hs (h j v hv)
theorem range_set {w : World} {b o : Nat} {cs : List Value} (h : w.rangeAt b o cs) {c : Nat} (hne : b ≠ c) (i : Nat) (u : Value) : (w.setCell ⟨c, i, none⟩ u).rangeAt b o cs := range_kep h (Kep.set_self (Kep.refl _ w) i u) hne
abbrev Z32 : Array Value := #[.int .u8 0, .int .u8 0, .int .u8 0, .int .u8 0, .int .u8 0, .int .u8 0, .int .u8 0, .int .u8 0, .int .u8 0, .int .u8 0, .int .u8 0, .int .u8 0, .int .u8 0, .int .u8 0, .int .u8 0, .int .u8 0, .int .u8 0, .int .u8 0, .int .u8 0, .int .u8 0, .int .u8 0, .int .u8 0, .int .u8 0, .int .u8 0, .int .u8 0, .int .u8 0, .int .u8 0, .int .u8 0, .int .u8 0, .int .u8 0, .int .u8 0, .int .u8 0]
theorem z32 : Z32 = ((List.replicate 32 (0 : Int)).map (Value.int .u8)).toArray := by rfl

theorem results_cic {fn : Func} {p q s : Tmp} {tp ts : TypeId} (h : fn.results = #[.cell p tp, .tmp q, .cell s ts]) (tmps : Array Value) (w : World) (a c : Addr) (X Y U : Value)
    (hp : tmps.getD p undef = .pointer (some a)) (hs : tmps.getD s undef = .pointer (some c)) (hq : tmps.getD q undef = U) (hX : (loadVar tp a).run Tryz.prog w = .ok X w) (hY : (loadVar ts c).run Tryz.prog w = .ok Y w) :
    (results fn tmps).run Tryz.prog w = .ok (.tuple #[X, U, Y]) w := by
  have hp' : tmps[p]?.getD undef = .pointer (some a) := by simpa using hp
  have hs' : tmps[s]?.getD undef = .pointer (some c) := by simpa using hs
  have hq' : tmps[q]?.getD undef = U := by simpa using hq
  simp [results, h, hp', hs', hq', asAddr, hX, hY]
theorem load_fault {w : World} {b : Nat} {e p : Int} (h0 : w.cell? ⟨b, 0, none⟩ = some (.int .i64 e)) (h1 : w.cell? ⟨b, 1, none⟩ = some (.int .i64 p)) : (loadVar 34 ⟨b, 0, none⟩).run Tryz.prog w = .ok (.agg #[.int .i64 e, .int .i64 p]) w :=
  run_loadVar_mid (P := Tryz.prog) w b 0 34 [.int .i64 e, .int .i64 p] _ (fun j v hv => by
    match j, hv with
    | 0, hv => simp at hv; subst hv; exact h0
    | 1, hv => simp at hv; subst hv; exact h1) Tryz.underlying34 rfl (by kernel_rfl)

end Cd
end Go.Proofs.YtpohcdfmkcfonaaGreatDoor
end

section
/-
  What the inner function of a reader's Hash answers in this program: the hash that stands at a place.
  Conditions: at most 10^6 bytes; 32 of them stand at the place.
-/
namespace Go.Proofs.YtpohcdfmkcfonaaGreatDoor
open Go.RowKit Go.Shelf
set_option linter.unusedVariables false
namespace Cd

theorem slice_l (A : Option Addr) (n c : Nat) (l : Int) (w : World) (h0 : 0 ≤ l) (h1 : l ≤ n) :
    (Instr.slice 25 (.slice A n c) (some (.int .i64 l)) none none).run Tryz.prog w = .ok (.slice (if c = l.toNat then A else A.map (·.add (l.toNat * 1))) (n - l.toNat) (c - l.toNat)) w := by
  rw [run_slice_l (P := Tryz.prog) (w := w) (t := 25) (a := A) (len := n) (cap := c) (by rw [elem_u8]; exact Tryz.underlying25) .i64 l h0 h1]
  rw [elem_u8]
  simp [Tryz.sizeOf5, Result.andThen, sliced]

/-- A copy that fills an array. -/
theorem step_copy_all {ops : Array Oper} {o : Oper} {a : Act} {w : World} {K : Act → World → Prop} {Q : Exit → Act → World → Prop} {E : Prop} (hgd : o.guard = none) (d s : Operand)
    (ho : o.op = .call { callee := .builtin .copy, args := #[d, s], argTypes := #[25, 25] }) (g : Nat) (ad : Addr) (dCap sLen sCap : Nat)
    (hd : a.eval d = .slice (some ⟨g, 0, none⟩) 32 dCap) (hs : a.eval s = .slice (some ad) sLen sCap) (cur : Array Value) (t : TypeId) (hg : w.heap[g]? = some (.cells cur t (0, 0))) (hcur : cur.size = 32)
    (cs : List Value) (hn : cs.length = 32) (hsl : 32 ≤ sLen) (hsrc : ∀ j v, cs[j]? = some v → w.cell? (ad.add j) = some v) (h1 : ∀ v ∈ cs, v.oneCell' = true)
    (h : ∀ w', Hid (Blk w' g cs.toArray t) → Hid (Kep (fun i => i = g) w w') → K (a.put o.dst (.int .i64 32)) w') :
    if Region.wanted o (yielded ops a.tmps) = true then Oper.wp Tryz.prog o a w K Q else E := by
  have hw : Region.wanted o (yielded ops a.tmps) = true := by simp [Region.wanted, hgd]
  rw [if_pos hw]
  have hrun := run_copy_row (P := Tryz.prog) w 25 25 o.type 5 g 0 32 dCap ad sLen sCap cur t cs Tryz.underlying25 (by kernel_rfl) hg (by rw [hn]; exact (Nat.min_eq_right hsl).symm) hsrc (by omega) h1
  have e : (cur.toList.take 0 ++ cs ++ cur.toList.drop (0 + cs.length)).toArray = cs.toArray := by
    rw [List.take_zero, List.nil_append, List.drop_of_length_le (by rw [hn]; simp; omega), List.append_nil]
  rw [e, hn] at hrun
  unfold Oper.wp
  simp [execOp, ho, resolve, invoke, builtin, hd, hs, hrun, Result.andThen]
  refine h _ (setRow_heap w g cur _ t _ hg) ⟨rfl, rfl, rfl, by simp, fun k _ hk => setRow_other w g k _ hk⟩

end Cd
end Go.Proofs.YtpohcdfmkcfonaaGreatDoor
end

section
/-
  What item of a reader answers in this program where the item is a hash.
  Conditions: the reader is one that NewReader made of at most 10^6 bytes.
-/
namespace Go.Proofs.YtpohcdfmkcfonaaGreatDoor
open Go.RowKit Go.Shelf
set_option linter.unusedVariables false
namespace Cd

abbrev FO : Obj := .cells #[.int .i64 0, .int .i64 0] 34
theorem z32_size : Z32.size = 32 := rfl

/-- What stands of a block that is to hold a hash, and of one that is to hold a fault. -/
theorem there_bel {w w' : World} {g : Nat} (h : w.there g 0 32) (hb : Bel w w') : w'.there g 0 32 := fun j hj => by
  obtain ⟨h1, h2⟩ := h j hj
  obtain ⟨v, hv⟩ := Option.isSome_iff_exists.1 h1
  have hl : g < w.heap.size := World.block_lt_of_cell? w _ hv
  refine ⟨?_, ?_⟩
  · rw [Below.cell (p := ⟨g, 0 + j, none⟩) hb hl]; exact h1
  · rw [Below.frozen (p := ⟨g, 0 + j, none⟩) hb hl]; exact h2
theorem r_self {w : World} {g : Nat} {Y : List Value} (h : w.there g 0 32) (hl : Y.length = 32) : (w.setCells g 0 Y).rangeAt g 0 Y := World.rangeAt_setCells_same w g 0 Y (by rw [hl]; exact h)
theorem cell_apart (w : World) (g : Nat) (vs : List Value) (c o : Nat) (h : c ≠ g) : (w.setCells g 0 vs).cell? ⟨c, o, none⟩ = w.cell? ⟨c, o, none⟩ :=
  World.cell?_setCells_out g vs 0 w ⟨c, o, none⟩ (fun hb _ => absurd hb h)
theorem frozen_apart (w : World) (g : Nat) (vs : List Value) (a : Addr) : (w.setCells g 0 vs).frozen? a = w.frozen? a := by rw [World.frozen?_setCells]
theorem blk_apart {w : World} {g c : Nat} {vs : List Value} {C : Array Value} {t : TypeId} (h : Blk w c C t) (hne : c ≠ g) : Blk (w.setCells g 0 vs) c C t := h.kep (kep_setCells g vs 0 w) hne
theorem bel_setCells {w w' : World} (h : Bel w w') {g : Nat} (hg : w.heap.size ≤ g) (vs : List Value) : Bel w (w'.setCells g 0 vs) := Kep.bel h (kep_setCells g vs 0 w') (fun i hi => by rw [hi]; exact hg)
theorem size_setCells (g : Nat) : ∀ (vs : List Value) (o : Nat) (w : World), (w.setCells g o vs).heap.size = w.heap.size
  | [], _, _ => rfl
  | v :: r, o, w => by
    rw [World.setCells, size_setCells g r (o + 1)]
    simp

abbrev Past (W w1 : World) (b : Nat) : Prop := Hid (Bel W w1) ∧ w1.heap.size ≠ b ∧ b ≠ w1.heap.size ∧ w1.heap.size + 1 ≠ b ∧ b ≠ w1.heap.size + 1
theorem past {W w1 : World} {b : Nat} (h : Bel W w1) (hb : b < W.heap.size) : Past W w1 b := by
  have := Below.size h
  exact ⟨h, by omega, by omega, by omega, by omega⟩
abbrev Emp (w1 : World) (g : Nat) : Prop := w1.cell? ⟨g, 0, none⟩ = some (.int .i64 0) ∧ w1.cell? ⟨g, 1, none⟩ = some (.int .i64 0) ∧ w1.frozen? ⟨g, 0, none⟩ = false ∧ w1.frozen? ⟨g, 1, none⟩ = false ∧ Hid (Blk w1 g #[.int .i64 0, .int .i64 0] 34)
theorem emp {W0 w1 : World} {g : Nat} (h : Blk W0 g #[.int .i64 0, .int .i64 0] 34) (hb : Bel W0 w1) : Emp w1 g :=
  ⟨(h.bel hb).cell 0 rfl, (h.bel hb).cell 1 rfl, (h.bel hb).frozen 0, (h.bel hb).frozen 1, h.bel hb⟩
theorem drew_there {w : World} {g : Nat} (h : w.there g 0 32) : w.drew.there g 0 32 := (World.there_drew w g 0 32).2 h
theorem blk_drew {w : World} {g : Nat} {C : Array Value} {t : TypeId} (h : Blk w g C t) : Blk w.drew g C t := h.bel ((Bel.refl w).drew)
/-- The five worlds in which the item may be asked for. -/
theorem at0 (W : World) (b : Nat) (hb : b < W.heap.size) : ∀ w1, Bel W.drew w1 → Past W w1 b := fun w1 h => past (((Bel.refl W).drew).trans h) hb
theorem results_c1 {fn : Func} {p : Tmp} {tp : TypeId} (h : fn.results = #[.cell p tp]) (tmps : Array Value) (w : World) (a : Addr) (X : Value)
    (hp : tmps.getD p undef = .pointer (some a)) (hX : (loadVar tp a).run Tryz.prog w = .ok X w) : (results fn tmps).run Tryz.prog w = .ok X w := by
  have hp' : tmps[p]?.getD undef = .pointer (some a) := by simpa using hp
  simp [results, h, hp', asAddr, hX]
theorem closed {W w2 : World} {gh g : Nat} {Y : List Value} {e bad tl : Int} (hT : w2.there gh 0 32) (hl : Y.length = 32) (hB : Blk w2 g #[.int .i64 0, .int .i64 0] 34) (hb : Bel W w2) (hgh : W.heap.size ≤ gh) (hg : W.heap.size ≤ g) (hne : g ≠ gh) :
    ∃ gh' g' : Nat, Value.pointer (some ⟨gh, 0, none⟩) = .pointer (some ⟨gh', 0, none⟩) ∧ Value.int .i64 tl = .int .i64 tl ∧ Value.pointer (some ⟨g, 0, none⟩) = .pointer (some ⟨g', 0, none⟩) ∧ W.heap.size ≤ gh' ∧ W.heap.size ≤ g' ∧ Hid ((((w2.setCells gh 0 Y).setCell ⟨g, 0, none⟩ (.int .i64 e)).setCell ⟨g, 1, none⟩ (.int .i64 bad)).rangeAt gh' 0 Y) ∧ Blk (((w2.setCells gh 0 Y).setCell ⟨g, 0, none⟩ (.int .i64 e)).setCell ⟨g, 1, none⟩ (.int .i64 bad)) g' #[.int .i64 e, .int .i64 bad] 34 ∧ Bel W (((w2.setCells gh 0 Y).setCell ⟨g, 0, none⟩ (.int .i64 e)).setCell ⟨g, 1, none⟩ (.int .i64 bad)) :=
  ⟨gh, g, rfl, rfl, rfl, hgh, hg, range_set (range_set (r_self hT hl) hne.symm 0 _) hne.symm 1 _, ((blk_apart hB hne).set 0 _).set 1 _, ((bel_setCells hb hgh Y).set hg _).set hg _⟩
theorem kep_new {S : Nat → Prop} {w w2 w3 : World} (h : Kep S w w2) (h3 : Kep (fun i => i = w.heap.size) w2 w3) : Kep S w w3 :=
  ⟨h3.os.trans h.os, h3.tape.trans h.tape, h3.output.trans h.output, Nat.le_trans h.size h3.size, fun i hi hs => (h3.block i (Nat.lt_of_lt_of_le hi h.size) (Nat.ne_of_lt hi)).trans (h.block i hi hs)⟩
theorem blk_second (w : World) (o : Obj) : Blk ((w.alloc o).alloc FO) (w.heap.size + 1) #[.int .i64 0, .int .i64 0] 34 := by
  have h := Blk.new (w.alloc o) #[.int .i64 0, .int .i64 0] 34
  rwa [World.size_alloc] at h

end Cd
end Go.Proofs.YtpohcdfmkcfonaaGreatDoor
end

section
/-
  What Hash of a reader answers in this program; distraintkit.Pick; whether a reader has a fault.
  Conditions: the reader is one that NewReader made of at most 10^6 bytes.
-/
namespace Go.Proofs.YtpohcdfmkcfonaaGreatDoor
open Go.RowKit Go.Shelf
set_option linter.unusedVariables false
namespace Cd

def RH (zs : List Int) (k : Nat) (f : Option (Int × Int)) (hs : List Int) (k' : Nat) (f' : Option (Int × Int)) : Prop :=
  (∃ p, f = some p ∧ hs = List.replicate 32 0 ∧ k' = k ∧ f' = f) ∨ (f = none ∧ ((k + 32 ≤ zs.length ∧ hs = (zs.drop k).take 32 ∧ k' = k + 32 ∧ f' = none) ∨ (zs.length < k + 32 ∧ hs = List.replicate 32 0 ∧ k' = k ∧ f' = some (6, (k : Int)))))

theorem RSt.kep0 {S : Nat → Prop} {w w' : World} {b : Nat} {A : Option Addr} {n c : Nat} {zs : List Int} {k : Nat} {F : Option Addr} (h : RSt w b A n c zs k F) (hk : Kep S w w') (h1 : ¬ S b) (h2 : 0 < n → ∀ x : Addr, A = some x → ¬ S x.block) : RSt w' b A n c zs k F := by
  rcases Nat.eq_zero_or_pos n with h0 | h0
  · exact ⟨h.blk.kep hk h1, ⟨⟨h.sl.ints.1, fun hn => absurd hn (by omega)⟩, h.sl.cap, h.sl.nil⟩, h.len, h.bytes, h.le, h.apart⟩
  · exact h.kep hk h1 (h2 h0)
theorem Flt.kep {S : Nat → Prop} {w w' : World} {b : Nat} {F : Option Addr} {f : Option (Int × Int)} (h : Flt w b F f) (hk : Kep S w w') (h2 : ∀ x : Addr, F = some x → ¬ S x.block) : Flt w' b F f := by
  rcases h with h | ⟨e, p, fb, h1, h2', h3, h4, h5⟩
  · exact .inl h
  · exact .inr ⟨e, p, fb, h1, h2', h3, h4.kep hk (h2 _ h2'), h5⟩

theorem blk_there {w : World} {b : Nat} {C : Array Value} {t : TypeId} (h : Blk w b C t) (hn : 32 ≤ C.size) : w.there b 0 32 := fun j hj => by
  rw [Nat.zero_add]
  refine ⟨?_, h.frozen j⟩
  rw [h.cell j (Array.getElem?_eq_getElem (by omega))]
  rfl

end Cd
end Go.Proofs.YtpohcdfmkcfonaaGreatDoor
end

section
/-
  What is read of bytes has no other bytes: numbers, hashes, byte strings. Plain facts; no program.
  Conditions: bytes; a place among them.
-/
namespace Go.Proofs.YtpohcdfmkcfonaaGreatDoor
open Go.RowKit Go.Shelf
set_option linter.unusedVariables false
namespace Cd

theorem val_front (zs : List Int) (k : Nat) : ∀ m, val zs k (m + 1) = zs.getD k 0 % 128 + 128 * val zs (k + 1) m := by
  intro m
  induction m with
  | zero => simp [val]
  | succ m ih =>
    show val zs k (m + 1) + zs.getD (k + (m + 1)) 0 % 128 * 128 ^ (m + 1) = zs.getD k 0 % 128 + 128 * (val zs (k + 1) m + zs.getD (k + 1 + m) 0 % 128 * 128 ^ m)
    rw [ih, pow1, show k + 1 + m = k + (m + 1) by omega]
    generalize zs.getD (k + (m + 1)) 0 % 128 = t
    generalize (128 : Int) ^ m = p
    generalize val zs (k + 1) m = v
    have : t * (p * 128) = 128 * (t * p) := by rw [← Int.mul_assoc, Int.mul_comm]
    rw [this]
    omega
theorem val_pos (zs : List Int) (k j : Nat) (h0 : 0 < zs.getD (k + j) 0) (h1 : zs.getD (k + j) 0 < 128) : 1 ≤ val zs k (j + 1) := by
  show 1 ≤ val zs k j + zs.getD (k + j) 0 % 128 * 128 ^ j
  have h2 := (val_lt zs k j).1
  have h3 := pow0 j
  have h4 : (1 : Int) ≤ zs.getD (k + j) 0 % 128 := by omega
  have h5 : 1 * (128 : Int) ^ j ≤ zs.getD (k + j) 0 % 128 * 128 ^ j := Int.mul_le_mul_of_nonneg_right h4 (by omega)
  omega
theorem val_max (zs : List Int) (k j : Nat) (hj : j < 10) (h9 : j = 9 → zs.getD (k + j) 0 = 1) : val zs k (j + 1) ≤ 18446744073709551615 := by
  have hp : ∀ m : Fin 10, (128 : Int) ^ m.1 ≤ 9223372036854775808 := by decide
  rcases Nat.lt_or_ge j 9 with h | h
  · have h1 := (val_lt zs k (j + 1)).2
    have h2 := hp ⟨j + 1, by omega⟩
    simp only at h2
    omega
  · obtain rfl : j = 9 := by omega
    show val zs k 9 + zs.getD (k + 9) 0 % 128 * 128 ^ 9 ≤ _
    rw [h9 rfl]
    have h1 := (val_lt zs k 9).2
    have e9 : (128 : Int) ^ 9 = 9223372036854775808 := by decide
    rw [e9] at *
    omega
theorem drop_cons (zs : List Int) (k m : Nat) (hk : k < zs.length) : (zs.drop k).take (m + 1) = zs.getD k 0 :: (zs.drop (k + 1)).take m := by
  rw [List.drop_eq_getElem_cons hk, List.take_succ_cons, getD_eq _ _ hk]
/-- A number that was read has just the bytes that it was read of. -/
theorem enc_val (zs : List Int) (hb : Bytes zs) : ∀ (j f k : Nat), j ≤ f → k + j < zs.length → (∀ i, i < j → 128 ≤ zs.getD (k + i) 0) → zs.getD (k + j) 0 < 128 → (0 < j → 0 < zs.getD (k + j) 0) → encN f (val zs k (j + 1)) = (zs.drop k).take (j + 1) := by
  intro j
  induction j with
  | zero =>
    intro f k _ hk _ hl _
    have h0 := hb k
    have hl : zs.getD k 0 < 128 := hl
    have e : val zs k (0 + 1) = zs.getD k 0 := by
      rw [val_front]
      show zs.getD k 0 % 128 + 128 * 0 = _
      omega
    rw [e, encN_small _ hl, drop_cons zs k 0 (by omega)]
    simp
  | succ j ih =>
    intro f k hf hk hg hl hp
    obtain ⟨f, rfl⟩ : ∃ g, f = g + 1 := ⟨f - 1, by omega⟩
    have e : k + 1 + j = k + (j + 1) := by omega
    have hv := val_pos zs (k + 1) j (by rw [e]; exact hp (by omega)) (by rw [e]; exact hl)
    have h0 := hb k
    have h1 := hg 0 (by omega)
    rw [Nat.add_zero] at h1
    have hi := ih f (k + 1) (by omega) (by omega) (fun i hi => by rw [show k + 1 + i = k + (i + 1) by omega]; exact hg (i + 1) (by omega)) (by rw [e]; exact hl) (fun _ => by rw [e]; exact hp (by omega))
    rw [val_front, drop_cons zs k (j + 1) (by omega), encN_great f (by omega), ← hi]
    generalize val zs (k + 1) (j + 1) = v at *
    generalize zs.getD k 0 = z at *
    rw [show (z % 128 + 128 * v) % 128 + 128 = z by omega, show (z % 128 + 128 * v) / 128 = v by omega]

/-- How reading a thing comes out: its bytes stand there, or a fault at the place. -/
def Out (zs : List Int) (k : Nat) (more : List Int) (k' : Nat) (f' : Option (Int × Int)) : Prop :=
  (f' = none ∧ k' ≤ zs.length ∧ zs.take k ++ more = zs.take k') ∨ (∃ e, e ≠ 0 ∧ f' = some (e, (k : Int)) ∧ k' = k)
theorem take_more (zs : List Int) (k m : Nat) : zs.take k ++ (zs.drop k).take m = zs.take (k + m) := List.take_add.symm

theorem ru_of (zs : List Int) (hb : Bytes zs) (k : Nat) (hk : k ≤ zs.length) : ∃ x k' f', RU zs k none x k' f' ∧ 0 ≤ x ∧ x ≤ 18446744073709551615 ∧ Out zs k (enc x) k' f' := by
  obtain ⟨n, tl, e, bad, hw⟩ := way_of zs hb k
  rcases id hw with ⟨h, _⟩ | ⟨k0, hk0, _, rfl, rfl, rfl, he⟩ | ⟨k0, j, hk0, hj, hkj, hg, hl, hp, h9, rfl, rfl, rfl, rfl⟩
  · omega
  · obtain rfl : k0 = k := by omega
    have h0 : e ≠ 0 := by rcases he with ⟨rfl, _⟩ | ⟨rfl, _⟩ | ⟨rfl, _⟩ <;> decide
    exact ⟨0, k0, some (e, (k0 : Int)), .inr ⟨rfl, 0, e, k0, hw, .inr ⟨h0, rfl, rfl⟩, hk, fun _ => rfl⟩, by decide, by decide, .inr ⟨e, h0, rfl, rfl⟩⟩
  · obtain rfl : k0 = k := by omega
    refine ⟨_, k0 + j + 1, none, .inr ⟨rfl, _, 0, 0, hw, .inl ⟨rfl, by omega, rfl⟩, by omega, fun h => absurd rfl h⟩, (val_lt zs k0 (j + 1)).1, val_max zs k0 j hj h9, .inl ⟨rfl, by omega, ?_⟩⟩
    show zs.take k0 ++ encN 9 (val zs k0 (j + 1)) = _
    rw [enc_val zs hb j 9 k0 (by omega) hkj hg hl hp, take_more, Nat.add_assoc]

theorem rh_of (zs : List Int) (k : Nat) (hk : k ≤ zs.length) : ∃ hs k' f', RH zs k none hs k' f' ∧ hs.length = 32 ∧ Out zs k hs k' f' := by
  rcases Nat.lt_or_ge zs.length (k + 32) with h | h
  · exact ⟨_, k, _, .inr ⟨rfl, .inr ⟨h, rfl, rfl, rfl⟩⟩, List.length_replicate, .inr ⟨6, by decide, rfl, rfl⟩⟩
  · exact ⟨_, _, _, .inr ⟨rfl, .inl ⟨h, rfl, rfl, rfl⟩⟩, by simp; omega, .inl ⟨rfl, h, take_more zs k 32⟩⟩

theorem rb_of (zs : List Int) (hb : Bytes zs) (k : Nat) (hk : k ≤ zs.length) : ∃ ys k' f', RB zs k none 400 ys k' f' ∧ ys.length ≤ zs.length ∧ Out zs k (enc (ys.length : Int) ++ ys) k' f' := by
  obtain ⟨n, tl, e, bad, hw⟩ := way_of zs hb k
  rcases id hw with ⟨h, _⟩ | ⟨k0, hk0, _, rfl, rfl, rfl, he⟩ | ⟨k0, j, hk0, hj, hkj, hg, hl, hp, h9, rfl, rfl, rfl, rfl⟩
  · omega
  · obtain rfl : k0 = k := by omega
    have h0 : e ≠ 0 := by rcases he with ⟨rfl, _⟩ | ⟨rfl, _⟩ | ⟨rfl, _⟩ <;> decide
    exact ⟨[], k0, some (e, (k0 : Int)), .inr ⟨rfl, 0, e, k0, ⟨0, 0, e, k0, hw, by decide, by decide, .inl ⟨h0, rfl, rfl, rfl, rfl⟩⟩, .inr ⟨h0, rfl, rfl⟩, hk, fun _ => rfl⟩, by simp, .inr ⟨e, h0, rfl, rfl⟩⟩
  · obtain rfl : k0 = k := by omega
    have hv0 := (val_lt zs k0 (j + 1)).1
    have hv1 := val_max zs k0 j hj h9
    have hen := enc_val zs hb j 9 k0 (by omega) hkj hg hl hp
    rcases Int.lt_or_le 400 (val zs k0 (j + 1)) with hgt | hle
    · exact ⟨[], k0, some (4, (k0 : Int)), .inr ⟨rfl, 0, 4, k0, ⟨_, _, 0, 0, hw, hv0, hv1, .inr (.inl ⟨rfl, .inr hgt, rfl, rfl, rfl, rfl⟩)⟩, .inr ⟨by decide, rfl, rfl⟩, hk, fun _ => rfl⟩, by simp, .inr ⟨4, by decide, rfl, rfl⟩⟩
    · obtain ⟨m, hm⟩ := Int.eq_ofNat_of_zero_le hv0
      rcases Nat.lt_or_ge zs.length (k0 + j + 1 + m) with hlt | hge
      · exact ⟨[], k0, some (6, (k0 : Int)), .inr ⟨rfl, 0, 6, k0, ⟨_, _, 0, 0, hw, hv0, hv1, .inr (.inr (.inl ⟨k0 + j + 1, by omega, by omega, rfl, by decide, hle, by omega, rfl, rfl, rfl, rfl⟩))⟩, .inr ⟨by decide, rfl, rfl⟩, hk, fun _ => rfl⟩, by simp, .inr ⟨6, by decide, rfl, rfl⟩⟩
      · have hl32 : ((zs.drop (k0 + j + 1)).take m).length = m := by simp; omega
        refine ⟨(zs.drop (k0 + j + 1)).take m, k0 + j + 1 + m, none, .inr ⟨rfl, ((k0 + j + 1 + m : Nat) : Int), 0, 0, ⟨_, _, 0, 0, hw, hv0, hv1, .inr (.inr (.inr ⟨k0 + j + 1, m, by omega, hm, hge, rfl, by decide, hle, rfl, rfl, rfl, rfl⟩))⟩, .inl ⟨rfl, rfl, rfl⟩, hge, fun h => absurd rfl h⟩, by rw [hl32]; omega, .inl ⟨rfl, hge, ?_⟩⟩
        rw [hl32, ← take_more zs (k0 + j + 1) m, ← List.append_assoc]
        congr 1
        show zs.take k0 ++ encN 9 (m : Int) = _
        rw [← hm, hen, take_more, Nat.add_assoc]
end Cd
end Go.Proofs.YtpohcdfmkcfonaaGreatDoor
end

section
/-
  What U, Hash and Blob of a reader without a fault answer in this program: the reader's bytes lie where they lay.
  Conditions: the reader is one that NewReader made of at most 10^6 bytes.
-/
namespace Go.Proofs.YtpohcdfmkcfonaaGreatDoor
open Go.RowKit Go.Shelf
set_option linter.unusedVariables false
namespace Cd

/-- A reader whose bytes lie at a known place, and whose fault is new. -/
def RX (w : World) (b : Nat) (A : Option Addr) (n c : Nat) (zs : List Int) (k : Nat) (f : Option (Int × Int)) (base : Nat) : Prop :=
  ∃ F, RSt w b A n c zs k F ∧ Flt w b F f ∧ ∀ x : Addr, F = some x → base ≤ x.block
theorem RX.rs {w : World} {b : Nat} {A : Option Addr} {n c : Nat} {zs : List Int} {k : Nat} {f : Option (Int × Int)} {base : Nat} (h : RX w b A n c zs k f base) : RS w b zs k f := by
  obtain ⟨F, h1, h2, _⟩ := h
  exact ⟨A, n, c, F, h1, h2⟩
theorem RX.rst {w : World} {b : Nat} {A : Option Addr} {n c : Nat} {zs : List Int} {k : Nat} {base : Nat} (h : RX w b A n c zs k none base) : RSt w b A n c zs k none := by
  obtain ⟨F, h1, ⟨_, rfl⟩ | ⟨_, _, _, h2, _⟩, _⟩ := h
  · exact h1
  · cases h2

end Cd
end Go.Proofs.YtpohcdfmkcfonaaGreatDoor
end

section
/-
  What N of the program's reader without a fault answers: the reader's bytes lie where they lay.
  Conditions: readers that were made of at most 10^6 bytes.
-/
namespace Go.Proofs.YtpohcdfmkcfonaaGreatDoor
open Go.RowKit Go.Shelf
set_option linter.unusedVariables false
namespace Cd

set_option maxRecDepth 100000 in
set_option maxHeartbeats 1000000 in
theorem itemNx (b : Nat) (A : Option Addr) (n c : Nat) (zs : List Int) (k : Nat) (x tl e bad : Int) (k' : Nat) (f' : Option (Int × Int)) (w : World) (h : RSt w b A n c zs k none) (p q : Addr) (hG : ∀ w', Bel w w' → Calls Tryz.prog 62 #[.slice A n c, .int .i64 (k : Int), .pointer (some p), .pointer (some q)] w' fun r w1 => r = .returned (gotI x tl e bad) ∧ Bel w' w1) (hm : Moves k tl e bad k' f') (hk' : k' ≤ n) (hx : e ≠ 0 → x = 0) :
    Calls Tryz.prog 61 #[.pointer (some ⟨b, 0, none⟩), .func (.func 62) #[] #[.pointer (some p), .pointer (some q)]] w fun r w' => r = .returned (.int .i64 x) ∧ RX w' b A n c zs k' f' w.heap.size ∧ Kep (fun i => i = b) w w' := by
  have T := Lib.hid (trouble b A n c zs k none w h)
  have H := Lib.hid h
  have G := Lib.hid (fun w' (hb : Bel w w') => (hG w' hb).mono (R' := fun r w1 => r = .returned (gotI x tl e bad) ∧ Bel w' w1 ∧ w1.cell? ⟨b, 1, none⟩ = some (.slice A n c) ∧ w1.cell? ⟨b, 2, none⟩ = some (.int .i64 (k : Int))) fun r w1 hr => ⟨hr.1, hr.2, (h.blk.bel (hb.trans hr.2)).cell 1 rfl, (h.blk.bel (hb.trans hr.2)).cell 2 rfl⟩)
  have c1 : w.cell? ⟨b, 1, none⟩ = some (.slice A n c) := h.blk.cell 1 rfl
  have c2 : w.cell? ⟨b, 2, none⟩ = some (.int .i64 (k : Int)) := h.blk.cell 2 rfl
  have n1 := World.new_ne w _ c1
  have D := Lib.hid (laid w 34)
  clear h hG
  go_enter Tryz.func61, Tryz.ntmps61
  go_upto_region 2 with (go_at_call 60; refine (T.out).mono ?_; rintro e w' ⟨rfl, rfl⟩)
  go_cut [5, 6, 7] (fun s5 s6 s7 wx => ∃ g : Nat, s5 = .int .i64 x ∧ s6 = .int .i64 tl ∧ s7 = .pointer (some ⟨g, 0, none⟩) ∧ w.heap.size ≤ g ∧ Blk wx g #[.int .i64 e, .int .i64 bad] 34 ∧ Bel w wx)
  case first =>
    go_region_held3 (fun w' => w'.cell? ⟨b, 1, none⟩ = some (.slice A n c) ∧ w'.cell? ⟨b, 2, none⟩ = some (.int .i64 (k : Int))) (go_keep)
      (first | (go_at_call 62; first | (refine (G.out _ ?_).mono ?_; exact ((Bel.refl _).alloc _).drew; rintro r w1 ⟨rfl, hb1, k1, k2⟩; obtain ⟨d0, d1, d2, d3, dB⟩ := D.out w1 hb1; have hb2 : Bel w w1 := (((Bel.refl _).alloc _).drew).trans hb1; have hbig := Below.size hb1; clear hb1) | (refine (G.out _ ?_).mono ?_; exact (Bel.refl _).drew; rintro r w1 ⟨rfl, hb1, k1, k2⟩; have hb2 : Bel w w1 := (Bel.refl _).drew.trans hb1; clear hb1)))
    all_goals (go_wp2_with fail; go_meet; first | exact ⟨w1.heap.size, rfl, rfl, rfl, Below.size hb2, Blk.new _ _ _, hb2.alloc _⟩ | exact ⟨w.heap.size, rfl, rfl, rfl, Nat.le_refl _, (dB.out.set 0 _).set 1 _, (hb2.set (Nat.le_refl _) _).set (Nat.le_refl _) _⟩)
  case rest =>
    obtain ⟨g, rfl, rfl, rfl, hg, hG, hbel⟩ := hcut
    have HG := Lib.hid hG
    have HB := Lib.hid hbel
    have HR := Lib.hid (H.out.bel hbel)
    have g0 : wc.cell? ⟨g, 0, none⟩ = some (.int .i64 e) := hG.cell 0 rfl
    have hbl := H.out.blk.lt
    have hne : g ≠ b := by omega
    clear hG hbel c1 c2 n1
    rcases hm with ⟨rfl, rfl, rfl⟩ | ⟨he, rfl, rfl⟩
    · have k2 : wc.cell? ⟨b, 2, none⟩ = some (.int .i64 (k : Int)) := HR.out.blk.cell 2 rfl
      have f2 := HR.out.blk.frozen 2
      go_wp2
      go_ret
      exact ⟨rfl, ⟨none, HR.out.move hk', .inl ⟨rfl, rfl⟩, fun x hx => by cases hx⟩, (Kep.of_bel HB.out).set_self _ _⟩
    · have k3 : wc.cell? ⟨b, 3, none⟩ = some (.pointer none) := HR.out.blk.cell 3 rfl
      have f3 := HR.out.blk.frozen 3
      have fe : (e != 0) = true := by rw [bne_iff_ne]; exact he
      have HE := Lib.hid he
      have HX := Lib.hid (hx he)
      clear he hx
      go_wp2
      go_ret
      exact ⟨by rw [HX.out]; rfl, ⟨_, HR.out.fault (some ⟨g, 0, none⟩), .inr ⟨e, bad, g, rfl, rfl, hne, HG.out.other hne 3 _, HE.out⟩, fun x hx => by cases hx; exact hg⟩, (Kep.of_bel HB.out).set_self _ _⟩

set_option maxRecDepth 100000 in
theorem rNx (b : Nat) (A : Option Addr) (n c : Nat) (zs : List Int) (k : Nat) (least most x : Int) (k' : Nat) (f' : Option (Int × Int)) (w : World) (h : RSt w b A n c zs k none) (hr : RN zs k none least most x k' f') (hm : most ≤ 9223372036854775807) :
    Calls Tryz.prog 38 #[.pointer (some ⟨b, 0, none⟩), .int .i64 least, .int .i64 most] w fun e w' => e = .returned (.int .i64 x) ∧ RX w' b A n c zs k' f' w.heap.size ∧ Kep (fun i => i = b) w w' := by
  have b0 : Bel w ((w.alloc (.cells #[.int .i64 least] 3)).alloc (.cells #[.int .i64 most] 3)) := ((Bel.refl w).alloc _).alloc _
  have HB0 := Lib.hid b0
  have hs := h.bel b0
  have p1 : ((w.alloc (.cells #[.int .i64 least] 3)).alloc (.cells #[.int .i64 most] 3)).cell? ⟨w.heap.size, 0, none⟩ = some (.int .i64 least) := ((Blk.new w _ _).alloc _).cell 0 rfl
  have p2 : ((w.alloc (.cells #[.int .i64 least] 3)).alloc (.cells #[.int .i64 most] 3)).cell? ⟨w.heap.size + 1, 0, none⟩ = some (.int .i64 most) := by
    have := (Blk.new (w.alloc (.cells #[.int .i64 least] 3)) #[.int .i64 most] 3).cell 0 rfl
    rwa [World.size_alloc] at this
  have HP1 := Lib.hid p1
  have HP2 := Lib.hid p2
  rcases hr with ⟨p, h, _⟩ | ⟨_, tl, e, bad, hw, hmv, hk, hx⟩
  · cases h
  have IT := Lib.hid (itemNx b A n c zs k x tl e bad k' f' _ hs ⟨w.heap.size, 0, none⟩ ⟨w.heap.size + 1, 0, none⟩ (fun w' hb => n1 A n c zs k least most x tl e bad w.heap.size (w.heap.size + 1) w' (hs.sl.bel hb) hs.len hs.bytes hw (bel_cell hb HP1.out) (bel_cell hb HP2.out) hm) hmv (by rw [← hs.sl.len]; exact hk) hx)
  clear hs hw hmv hk hx p1 p2 b0 h hm
  go_enter Tryz.func38, Tryz.ntmps38
  go_wp2_with fail
  refine (IT.out).mono ?_
  rintro e w' ⟨rfl, ⟨F, h1, h1', h1''⟩, h2⟩
  have H1 : Hid (RX w' b A n c zs k' f' w.heap.size) := ⟨F, h1, h1', fun x hx => by have := h1'' x hx; simp at this; omega⟩
  have H2 := Lib.hid h2
  clear h1 h1' h1'' h2
  go_wp2
  go_ret
  exact ⟨rfl, H1.out, (Kep.of_bel HB0.out).trans H2.out⟩
end Cd
end Go.Proofs.YtpohcdfmkcfonaaGreatDoor
end

section
/-
  What a reader answers while another object, at block d, stands beside it: its own memory stays apart from that block.
  Conditions: readers that were made of at most 10^6 bytes.
-/
namespace Go.Proofs.YtpohcdfmkcfonaaGreatDoor
open Go.RowKit Go.Shelf
set_option linter.unusedVariables false
namespace Cd

/-- A reader whose bytes lie at a known place, and whose fault does not lie in block d. -/
def RD (d : Nat) (w : World) (b : Nat) (A : Option Addr) (n c : Nat) (zs : List Int) (k : Nat) (f : Option (Int × Int)) : Prop :=
  ∃ F, RSt w b A n c zs k F ∧ Flt w b F f ∧ ∀ x : Addr, F = some x → x.block ≠ d
theorem RD.rs {d : Nat} {w : World} {b : Nat} {A : Option Addr} {n c : Nat} {zs : List Int} {k : Nat} {f : Option (Int × Int)} (h : RD d w b A n c zs k f) : RS w b zs k f := by
  obtain ⟨F, h1, h2, _⟩ := h
  exact ⟨A, n, c, F, h1, h2⟩
theorem RD.rst {d : Nat} {w : World} {b : Nat} {A : Option Addr} {n c : Nat} {zs : List Int} {k : Nat} (h : RD d w b A n c zs k none) : RSt w b A n c zs k none := by
  obtain ⟨F, h1, ⟨_, rfl⟩ | ⟨_, _, _, h2, _⟩, _⟩ := h
  · exact h1
  · cases h2
theorem RX.rd {w : World} {b : Nat} {A : Option Addr} {n c : Nat} {zs : List Int} {k : Nat} {f : Option (Int × Int)} {base : Nat} (h : RX w b A n c zs k f base) {d : Nat} (hd : d < base) : RD d w b A n c zs k f := by
  obtain ⟨F, h1, h2, h3⟩ := h
  exact ⟨F, h1, h2, fun x hx => by have := h3 x hx; omega⟩
theorem RD.bel {d : Nat} {w w' : World} {b : Nat} {A : Option Addr} {n c : Nat} {zs : List Int} {k : Nat} {f : Option (Int × Int)} (h : RD d w b A n c zs k f) (hk : Bel w w') : RD d w' b A n c zs k f := by
  obtain ⟨F, h1, h2, h3⟩ := h
  exact ⟨F, h1.bel hk, h2.bel hk, h3⟩
/-- The other object moves. -/
theorem RD.kep {d : Nat} {w w' : World} {b : Nat} {A : Option Addr} {n c : Nat} {zs : List Int} {k : Nat} {f : Option (Int × Int)} (h : RD d w b A n c zs k f) (hk : Kep (fun i => i = d) w w') (hbd : b ≠ d) (hA : 0 < n → ∀ x : Addr, A = some x → x.block ≠ d) : RD d w' b A n c zs k f := by
  obtain ⟨F, h1, h2, h3⟩ := h
  exact ⟨F, h1.kep0 hk hbd hA, h2.kep hk h3, h3⟩
theorem RD.fault {d : Nat} {w : World} {b : Nat} {A : Option Addr} {n c : Nat} {zs : List Int} {k : Nat} {p : Int × Int} (h : RD d w b A n c zs k (some p)) : ∃ x, RSt w b A n c zs k (some x) := by
  obtain ⟨F, h1, ⟨h2, _⟩ | ⟨_, _, fb, _, rfl, _⟩, _⟩ := h
  · cases h2
  · exact ⟨_, h1⟩

set_option maxRecDepth 100000 in
theorem nF (b : Nat) (A : Option Addr) (n c : Nat) (zs : List Int) (k : Nat) (x : Addr) (least most : Int) (w : World) (h : RSt w b A n c zs k (some x)) :
    Calls Tryz.prog 38 #[.pointer (some ⟨b, 0, none⟩), .int .i64 least, .int .i64 most] w fun e w' => e = .returned (.int .i64 0) ∧ Bel w w' := by
  have IT := Lib.hid (fun fn w' (hb : Bel w w') => itemN_fault b A n c zs k x fn w' (h.bel hb))
  clear h
  go_enter Tryz.func38, Tryz.ntmps38
  go_wp2_with fail
  refine (IT.out _ _ (((Bel.refl _).alloc _).alloc _)).mono ?_
  rintro e w' ⟨rfl, rfl⟩
  go_wp2
  go_ret
  exact ⟨rfl, ((Bel.refl _).alloc _).alloc _⟩
theorem yN (d b : Nat) (A : Option Addr) (n c : Nat) (zs : List Int) (k : Nat) (f : Option (Int × Int)) (least most x : Int) (k' : Nat) (f' : Option (Int × Int)) (w : World) (h : RD d w b A n c zs k f) (hr : RN zs k f least most x k' f') (hm : most ≤ 9223372036854775807) (hd : d < w.heap.size) :
    Calls Tryz.prog 38 #[.pointer (some ⟨b, 0, none⟩), .int .i64 least, .int .i64 most] w fun e w' => e = .returned (.int .i64 x) ∧ RD d w' b A n c zs k' f' ∧ Kep (fun i => i = b) w w' := by
  rcases id hr with ⟨p, rfl, rfl, rfl, rfl⟩ | ⟨rfl, _⟩
  · obtain ⟨x, hx⟩ := h.fault
    exact (nF b A n c zs k' x least most w hx).mono fun e w' he => ⟨he.1, h.bel he.2, Kep.of_bel he.2⟩
  · exact (rNx b A n c zs k least most x k' f' w h.rst hr hm).mono fun e w' he => ⟨he.1, he.2.1.rd hd, he.2.2⟩
set_option maxRecDepth 100000 in
theorem yFail (d b : Nat) (A : Option Addr) (n c : Nat) (zs : List Int) (k : Nat) (f : Option (Int × Int)) (e p : Int) (w : World) (h : RD d w b A n c zs k f) (hd : d < w.heap.size) :
    Calls Tryz.prog 39 #[.pointer (some ⟨b, 0, none⟩), .int .i64 e, .int .i64 p] w fun r w' => r = .returned (.tuple #[]) ∧ RD d w' b A n c zs k (failOf f e p) ∧ Kep (fun i => i = b) w w' := by
  obtain ⟨F, hs, hf, hFd⟩ := h
  have T := Lib.hid (trouble b A n c zs k F w hs)
  have HS := Lib.hid hs
  have HF := Lib.hid hf
  have hbl := hs.blk.lt
  by_cases he : e = 0
  · have E := Lib.hid (show failOf f e p = f from if_pos he)
    have fe : (e != 0) = false := by rw [he]; rfl
    clear hs hf he
    go_enter Tryz.func39, Tryz.ntmps39
    go_wp2
    go_end0
    rw [E.out]
    exact ⟨rfl, ⟨F, HS.out, HF.out, hFd⟩, Kep.refl _ _⟩
  · have fe : (e != 0) = true := by rw [bne_iff_ne]; exact he
    have HE := Lib.hid he
    rcases hf with ⟨rfl, rfl⟩ | ⟨e', q, fb, rfl, rfl, h3, h4, h5⟩
    · have E := Lib.hid (show failOf none e p = some (e, p) from if_neg he)
      have k3 : w.cell? ⟨b, 3, none⟩ = some (.pointer none) := hs.blk.cell 3 rfl
      have k3' : (w.alloc (.cells #[.int .i64 e, .int .i64 p] 34)).cell? ⟨b, 3, none⟩ = some (.pointer none) := (hs.blk.alloc _).cell 3 rfl
      have f3 := hs.blk.frozen 3
      have f3' := (hs.blk.alloc (.cells #[.int .i64 e, .int .i64 p] 34)).frozen 3
      clear hs he
      go_enter Tryz.func39, Tryz.ntmps39
      go_wp2_with (go_at_call 60; refine (T.out).mono ?_; rintro r w' ⟨rfl, rfl⟩)
      go_end0
      rw [E.out]
      have hbk := Blk.new (w.setCell ⟨b, 3, none⟩ (.pointer (some ⟨w.heap.size, 0, none⟩))) #[.int .i64 e, .int .i64 p] 34
      have hsz : (w.setCell ⟨b, 3, none⟩ (.pointer (some ⟨w.heap.size, 0, none⟩))).heap.size = w.heap.size := by simp
      rw [hsz] at hbk
      exact ⟨rfl, ⟨_, (HS.out.fault (some ⟨w.heap.size, 0, none⟩)).bel ((Bel.refl _).alloc _), .inr ⟨e, p, w.heap.size, rfl, rfl, by omega, hbk, HE.out⟩, fun x hx => by cases hx; exact Nat.ne_of_gt hd⟩, ((Kep.refl _ _).set_self 3 _).alloc _⟩
    · have E := Lib.hid (show failOf (some (e', q)) e p = some (e', q) from if_neg he)
      clear hs he
      go_enter Tryz.func39, Tryz.ntmps39
      go_wp2_with (go_at_call 60; refine (T.out).mono ?_; rintro r w' ⟨rfl, rfl⟩)
      go_end0
      rw [E.out]
      exact ⟨rfl, ⟨_, HS.out, HF.out, hFd⟩, Kep.refl _ _⟩
end Cd
end Go.Proofs.YtpohcdfmkcfonaaGreatDoor
end
