/-
  Texts of this claim, put together: Hash, Hash2, Hash3, Hash4, OneMath, OneItems, OneKit, CodecKnown, CodecOne, None0, Sm2. What each one says, and under which conditions, stands ahead of it.
-/
import Derived.Deep.MidRow
import Derived.Laws.CopyOwn
import Derived.Lib.SlBytesConst
import Derived.Lib.SmallJoins
import Derived.Test.YtcefjigbaglmeaaGreatGWriter2
import Derived.Test.YtcefjigbaglmeaaGreatRA
import Derived.Test.YtcefjigbaglmeaaGreatGSm1b
import Derived.Test.YtcefjigbaglmeaaGreatGWriter3

section
/-
  What Hash of a writer and of a reader answer in this program.
  Conditions: objects that were made; a hash of 32 bytes.
-/
namespace Go.Proofs.YtcefjigbaglmeaaGreat
open Go.RowKit Go.Shelf
set_option linter.unusedVariables false
namespace Cd

/-- A hash, as the program keeps it: 32 bytes. -/
abbrev hash (hs : List Int) : Value := .agg (hs.map (Value.int .u8)).toArray

theorem sl_box (w : World) (hs : List Int) (t : TypeId) (h : hs.length = 32) : Sl (w.alloc (.cells (hs.map (Value.int .u8)).toArray t)) (some ⟨w.heap.size, 0, none⟩) 32 32 hs := by
  refine ⟨⟨h, fun hn => ⟨w.heap.size, 0, rfl, by simp, fun i hi => ?_⟩⟩, Nat.le_refl _, fun h => by cases h⟩
  rw [Nat.zero_add, World.cell?_alloc_new, List.getElem?_toArray, List.getElem?_map, List.getElem?_eq_getElem (by omega), getD_eq _ _ (by omega)]
  rfl

theorem zero_hash : (List.replicate 32 (0 : Int)).map (Value.int .u8) = List.replicate 32 (Value.int .u8 0) := by simp

theorem range_new {w : World} {C : Array Value} {t : TypeId} : (w.alloc (.cells C t)).rangeAt w.heap.size 0 C.toList := fun j v hv => by
  rw [Nat.zero_add]
  exact (Blk.new w C t).cell j (by simpa using hv)
theorem there_new {w : World} {C : Array Value} {t : TypeId} {n : Nat} (h : n ≤ C.size) : (w.alloc (.cells C t)).there w.heap.size 0 n := fun j hj => by
  rw [Nat.zero_add]
  refine ⟨?_, (Blk.new w C t).frozen j⟩
  rw [(Blk.new w C t).cell j (Array.getElem?_eq_getElem (by omega))]
  rfl
theorem cell_far {w : World} {b : Nat} {vs : List Value} {c o : Nat} {v : Value} (h : w.cell? ⟨c, o, none⟩ = some v) (hne : c ≠ b) : (w.setCells b 0 vs).cell? ⟨c, o, none⟩ = some v := by
  have h1 : w.rangeAt c o [v] := fun j u hu => by
    match j, hu with
    | 0, hu => simp at hu; subst hu; exact h
  have := World.rangeAt_setCells_apart h1 b 0 vs (.inl hne) 0 v rfl
  simpa using this
theorem frozen_far {w : World} {b : Nat} {vs : List Value} {c o : Nat} {v : Value} (h : w.cell? ⟨c, o, none⟩ = some v) (hf : w.frozen? ⟨c, o, none⟩ = false) : (w.setCells b 0 vs).frozen? ⟨c, o, none⟩ = false := by
  have h1 : w.there c o 1 := fun j hj => by
    obtain rfl : j = 0 := by omega
    exact ⟨by rw [Nat.add_zero, h]; rfl, hf⟩
  have := (World.there_setCells h1 b 0 vs 0 (by omega)).2
  simpa using this
theorem kep_setCells (b : Nat) : ∀ (vs : List Value) (o : Nat) (w : World), Kep (fun i => i = b) w (w.setCells b o vs) := by
  intro vs
  induction vs with
  | nil => intro o w; exact Kep.refl _ _
  | cons v vs ih => intro o w; exact (Kep.set_self (Kep.refl _ w) o v).trans (ih (o + 1) _)

theorem range_kep {S : Nat → Prop} {w w' : World} {b o : Nat} {cs : List Value} (h : w.rangeAt b o cs) (hk : Kep S w w') (hs : ¬ S b) : w'.rangeAt b o cs := fun j v hv => hk.cell hs (h j v hv)
theorem range_set {w : World} {b o : Nat} {cs : List Value} (h : w.rangeAt b o cs) {c : Nat} (hne : b ≠ c) (i : Nat) (u : Value) : (w.setCell ⟨c, i, none⟩ u).rangeAt b o cs := range_kep h (Kep.set_self (Kep.refl _ w) i u) hne
abbrev Z32 : Array Value := #[.int .u8 0, .int .u8 0, .int .u8 0, .int .u8 0, .int .u8 0, .int .u8 0, .int .u8 0, .int .u8 0, .int .u8 0, .int .u8 0, .int .u8 0, .int .u8 0, .int .u8 0, .int .u8 0, .int .u8 0, .int .u8 0, .int .u8 0, .int .u8 0, .int .u8 0, .int .u8 0, .int .u8 0, .int .u8 0, .int .u8 0, .int .u8 0, .int .u8 0, .int .u8 0, .int .u8 0, .int .u8 0, .int .u8 0, .int .u8 0, .int .u8 0, .int .u8 0]
theorem z32 : Z32 = ((List.replicate 32 (0 : Int)).map (Value.int .u8)).toArray := by rfl

theorem results_cic {fn : Func} {p q s : Tmp} {tp ts : TypeId} (h : fn.results = #[.cell p tp, .tmp q, .cell s ts]) (tmps : Array Value) (w : World) (a c : Addr) (X Y U : Value)
    (hp : tmps.getD p undef = .pointer (some a)) (hs : tmps.getD s undef = .pointer (some c)) (hq : tmps.getD q undef = U) (hX : (loadVar tp a).run Tryz.prog w = .ok X w) (hY : (loadVar ts c).run Tryz.prog w = .ok Y w) :
    (results fn tmps).run Tryz.prog w = .ok (.tuple #[X, U, Y]) w := by
  have hp' : tmps[p]?.getD undef = .pointer (some a) := by simpa using hp
  have hs' : tmps[s]?.getD undef = .pointer (some c) := by simpa using hs
  have hq' : tmps[q]?.getD undef = U := by simpa using hq
  simp [results, h, hp', hs', hq', asAddr, hX, hY]
theorem load_fault {w : World} {b : Nat} {e p : Int} (h0 : w.cell? ⟨b, 0, none⟩ = some (.int .i64 e)) (h1 : w.cell? ⟨b, 1, none⟩ = some (.int .i64 p)) : (loadVar 32 ⟨b, 0, none⟩).run Tryz.prog w = .ok (.agg #[.int .i64 e, .int .i64 p]) w :=
  run_loadVar_mid (P := Tryz.prog) w b 0 32 [.int .i64 e, .int .i64 p] _ (fun j v hv => by
    match j, hv with
    | 0, hv => simp at hv; subst hv; exact h0
    | 1, hv => simp at hv; subst hv; exact h1) Tryz.underlying32 rfl (by kernel_rfl)

end Cd
end Go.Proofs.YtcefjigbaglmeaaGreat
end

section
/-
  What the inner function of a reader's Hash answers in this program: the hash that stands at a place.
  Conditions: at most 10^6 bytes; 32 of them stand at the place.
-/
namespace Go.Proofs.YtcefjigbaglmeaaGreat
open Go.RowKit Go.Shelf
set_option linter.unusedVariables false
namespace Cd

theorem slice_l (A : Option Addr) (n c : Nat) (l : Int) (w : World) (h0 : 0 ≤ l) (h1 : l ≤ n) :
    (Instr.slice 23 (.slice A n c) (some (.int .i64 l)) none none).run Tryz.prog w = .ok (.slice (if c = l.toNat then A else A.map (·.add (l.toNat * 1))) (n - l.toNat) (c - l.toNat)) w := by
  rw [run_slice_l (P := Tryz.prog) (w := w) (t := 23) (a := A) (len := n) (cap := c) (by rw [elem_u8]; exact Tryz.underlying23) .i64 l h0 h1]
  rw [elem_u8]
  simp [Tryz.sizeOf5, Result.andThen, sliced]

/-- A copy that fills an array. -/
theorem step_copy_all {ops : Array Oper} {o : Oper} {a : Act} {w : World} {K : Act → World → Prop} {Q : Exit → Act → World → Prop} {E : Prop} (hgd : o.guard = none) (d s : Operand)
    (ho : o.op = .call { callee := .builtin .copy, args := #[d, s], argTypes := #[23, 23] }) (g : Nat) (ad : Addr) (dCap sLen sCap : Nat)
    (hd : a.eval d = .slice (some ⟨g, 0, none⟩) 32 dCap) (hs : a.eval s = .slice (some ad) sLen sCap) (cur : Array Value) (t : TypeId) (hg : w.heap[g]? = some (.cells cur t (0, 0))) (hcur : cur.size = 32)
    (cs : List Value) (hn : cs.length = 32) (hsl : 32 ≤ sLen) (hsrc : ∀ j v, cs[j]? = some v → w.cell? (ad.add j) = some v) (h1 : ∀ v ∈ cs, v.oneCell' = true)
    (h : ∀ w', Hid (Blk w' g cs.toArray t) → Hid (Kep (fun i => i = g) w w') → K (a.put o.dst (.int .i64 32)) w') :
    if Region.wanted o (yielded ops a.tmps) = true then Oper.wp Tryz.prog o a w K Q else E := by
  have hw : Region.wanted o (yielded ops a.tmps) = true := by simp [Region.wanted, hgd]
  rw [if_pos hw]
  have hrun := run_copy_row (P := Tryz.prog) w 23 23 o.type 5 g 0 32 dCap ad sLen sCap cur t cs Tryz.underlying23 (by kernel_rfl) hg (by rw [hn]; exact (Nat.min_eq_right hsl).symm) hsrc (by omega) h1
  have e : (cur.toList.take 0 ++ cs ++ cur.toList.drop (0 + cs.length)).toArray = cs.toArray := by
    rw [List.take_zero, List.nil_append, List.drop_of_length_le (by rw [hn]; simp; omega), List.append_nil]
  rw [e, hn] at hrun
  unfold Oper.wp
  simp [execOp, ho, resolve, invoke, builtin, hd, hs, hrun, Result.andThen]
  refine h _ (setRow_heap w g cur _ t _ hg) ⟨rfl, rfl, rfl, by simp, fun k _ hk => setRow_other w g k _ hk⟩

end Cd
end Go.Proofs.YtcefjigbaglmeaaGreat
end

section
/-
  What item of a reader answers in this program where the item is a hash.
  Conditions: the reader is one that NewReader made of at most 10^6 bytes.
-/
namespace Go.Proofs.YtcefjigbaglmeaaGreat
open Go.RowKit Go.Shelf
set_option linter.unusedVariables false
namespace Cd

abbrev FO : Obj := .cells #[.int .i64 0, .int .i64 0] 32
theorem z32_size : Z32.size = 32 := rfl

/-- What stands of a block that is to hold a hash, and of one that is to hold a fault. -/
theorem there_bel {w w' : World} {g : Nat} (h : w.there g 0 32) (hb : Bel w w') : w'.there g 0 32 := fun j hj => by
  obtain ⟨h1, h2⟩ := h j hj
  obtain ⟨v, hv⟩ := Option.isSome_iff_exists.1 h1
  have hl : g < w.heap.size := World.block_lt_of_cell? w _ hv
  refine ⟨?_, ?_⟩
  · rw [Below.cell (p := ⟨g, 0 + j, none⟩) hb hl]; exact h1
  · rw [Below.frozen (p := ⟨g, 0 + j, none⟩) hb hl]; exact h2
theorem r_self {w : World} {g : Nat} {Y : List Value} (h : w.there g 0 32) (hl : Y.length = 32) : (w.setCells g 0 Y).rangeAt g 0 Y := World.rangeAt_setCells_same w g 0 Y (by rw [hl]; exact h)
theorem cell_apart (w : World) (g : Nat) (vs : List Value) (c o : Nat) (h : c ≠ g) : (w.setCells g 0 vs).cell? ⟨c, o, none⟩ = w.cell? ⟨c, o, none⟩ :=
  World.cell?_setCells_out g vs 0 w ⟨c, o, none⟩ (fun hb _ => absurd hb h)
theorem frozen_apart (w : World) (g : Nat) (vs : List Value) (a : Addr) : (w.setCells g 0 vs).frozen? a = w.frozen? a := by rw [World.frozen?_setCells]
theorem blk_apart {w : World} {g c : Nat} {vs : List Value} {C : Array Value} {t : TypeId} (h : Blk w c C t) (hne : c ≠ g) : Blk (w.setCells g 0 vs) c C t := h.kep (kep_setCells g vs 0 w) hne
theorem bel_setCells {w w' : World} (h : Bel w w') {g : Nat} (hg : w.heap.size ≤ g) (vs : List Value) : Bel w (w'.setCells g 0 vs) := Kep.bel h (kep_setCells g vs 0 w') (fun i hi => by rw [hi]; exact hg)
theorem size_setCells (g : Nat) : ∀ (vs : List Value) (o : Nat) (w : World), (w.setCells g o vs).heap.size = w.heap.size
  | [], _, _ => rfl
  | v :: r, o, w => by
    rw [World.setCells, size_setCells g r (o + 1)]
    simp

abbrev Past (W w1 : World) (b : Nat) : Prop := Hid (Bel W w1) ∧ w1.heap.size ≠ b ∧ b ≠ w1.heap.size ∧ w1.heap.size + 1 ≠ b ∧ b ≠ w1.heap.size + 1
theorem past {W w1 : World} {b : Nat} (h : Bel W w1) (hb : b < W.heap.size) : Past W w1 b := by
  have := Below.size h
  exact ⟨h, by omega, by omega, by omega, by omega⟩
abbrev Emp (w1 : World) (g : Nat) : Prop := w1.cell? ⟨g, 0, none⟩ = some (.int .i64 0) ∧ w1.cell? ⟨g, 1, none⟩ = some (.int .i64 0) ∧ w1.frozen? ⟨g, 0, none⟩ = false ∧ w1.frozen? ⟨g, 1, none⟩ = false ∧ Hid (Blk w1 g #[.int .i64 0, .int .i64 0] 32)
theorem emp {W0 w1 : World} {g : Nat} (h : Blk W0 g #[.int .i64 0, .int .i64 0] 32) (hb : Bel W0 w1) : Emp w1 g :=
  ⟨(h.bel hb).cell 0 rfl, (h.bel hb).cell 1 rfl, (h.bel hb).frozen 0, (h.bel hb).frozen 1, h.bel hb⟩
theorem drew_there {w : World} {g : Nat} (h : w.there g 0 32) : w.drew.there g 0 32 := (World.there_drew w g 0 32).2 h
theorem blk_drew {w : World} {g : Nat} {C : Array Value} {t : TypeId} (h : Blk w g C t) : Blk w.drew g C t := h.bel ((Bel.refl w).drew)
/-- The five worlds in which the item may be asked for. -/
theorem at0 (W : World) (b : Nat) (hb : b < W.heap.size) : ∀ w1, Bel W.drew w1 → Past W w1 b := fun w1 h => past (((Bel.refl W).drew).trans h) hb
theorem results_c1 {fn : Func} {p : Tmp} {tp : TypeId} (h : fn.results = #[.cell p tp]) (tmps : Array Value) (w : World) (a : Addr) (X : Value)
    (hp : tmps.getD p undef = .pointer (some a)) (hX : (loadVar tp a).run Tryz.prog w = .ok X w) : (results fn tmps).run Tryz.prog w = .ok X w := by
  have hp' : tmps[p]?.getD undef = .pointer (some a) := by simpa using hp
  simp [results, h, hp', asAddr, hX]
theorem closed {W w2 : World} {gh g : Nat} {Y : List Value} {e bad tl : Int} (hT : w2.there gh 0 32) (hl : Y.length = 32) (hB : Blk w2 g #[.int .i64 0, .int .i64 0] 32) (hb : Bel W w2) (hgh : W.heap.size ≤ gh) (hg : W.heap.size ≤ g) (hne : g ≠ gh) :
    ∃ gh' g' : Nat, Value.pointer (some ⟨gh, 0, none⟩) = .pointer (some ⟨gh', 0, none⟩) ∧ Value.int .i64 tl = .int .i64 tl ∧ Value.pointer (some ⟨g, 0, none⟩) = .pointer (some ⟨g', 0, none⟩) ∧ W.heap.size ≤ gh' ∧ W.heap.size ≤ g' ∧ Hid ((((w2.setCells gh 0 Y).setCell ⟨g, 0, none⟩ (.int .i64 e)).setCell ⟨g, 1, none⟩ (.int .i64 bad)).rangeAt gh' 0 Y) ∧ Blk (((w2.setCells gh 0 Y).setCell ⟨g, 0, none⟩ (.int .i64 e)).setCell ⟨g, 1, none⟩ (.int .i64 bad)) g' #[.int .i64 e, .int .i64 bad] 32 ∧ Bel W (((w2.setCells gh 0 Y).setCell ⟨g, 0, none⟩ (.int .i64 e)).setCell ⟨g, 1, none⟩ (.int .i64 bad)) :=
  ⟨gh, g, rfl, rfl, rfl, hgh, hg, range_set (range_set (r_self hT hl) hne.symm 0 _) hne.symm 1 _, ((blk_apart hB hne).set 0 _).set 1 _, ((bel_setCells hb hgh Y).set hg _).set hg _⟩
theorem kep_new {S : Nat → Prop} {w w2 w3 : World} (h : Kep S w w2) (h3 : Kep (fun i => i = w.heap.size) w2 w3) : Kep S w w3 :=
  ⟨h3.os.trans h.os, h3.tape.trans h.tape, h3.output.trans h.output, Nat.le_trans h.size h3.size, fun i hi hs => (h3.block i (Nat.lt_of_lt_of_le hi h.size) (Nat.ne_of_lt hi)).trans (h.block i hi hs)⟩
theorem blk_second (w : World) (o : Obj) : Blk ((w.alloc o).alloc FO) (w.heap.size + 1) #[.int .i64 0, .int .i64 0] 32 := by
  have h := Blk.new (w.alloc o) #[.int .i64 0, .int .i64 0] 32
  rwa [World.size_alloc] at h

end Cd
end Go.Proofs.YtcefjigbaglmeaaGreat
end

section
/-
  What Hash of a reader answers in this program; distraintkit.Pick; whether a reader has a fault.
  Conditions: the reader is one that NewReader made of at most 10^6 bytes.
-/
namespace Go.Proofs.YtcefjigbaglmeaaGreat
open Go.RowKit Go.Shelf
set_option linter.unusedVariables false
namespace Cd

def RH (zs : List Int) (k : Nat) (f : Option (Int × Int)) (hs : List Int) (k' : Nat) (f' : Option (Int × Int)) : Prop :=
  (∃ p, f = some p ∧ hs = List.replicate 32 0 ∧ k' = k ∧ f' = f) ∨ (f = none ∧ ((k + 32 ≤ zs.length ∧ hs = (zs.drop k).take 32 ∧ k' = k + 32 ∧ f' = none) ∨ (zs.length < k + 32 ∧ hs = List.replicate 32 0 ∧ k' = k ∧ f' = some (6, (k : Int)))))

theorem RSt.kep0 {S : Nat → Prop} {w w' : World} {b : Nat} {A : Option Addr} {n c : Nat} {zs : List Int} {k : Nat} {F : Option Addr} (h : RSt w b A n c zs k F) (hk : Kep S w w') (h1 : ¬ S b) (h2 : 0 < n → ∀ x : Addr, A = some x → ¬ S x.block) : RSt w' b A n c zs k F := by
  rcases Nat.eq_zero_or_pos n with h0 | h0
  · exact ⟨h.blk.kep hk h1, ⟨⟨h.sl.ints.1, fun hn => absurd hn (by omega)⟩, h.sl.cap, h.sl.nil⟩, h.len, h.bytes, h.le, h.apart⟩
  · exact h.kep hk h1 (h2 h0)
theorem Flt.kep {S : Nat → Prop} {w w' : World} {b : Nat} {F : Option Addr} {f : Option (Int × Int)} (h : Flt w b F f) (hk : Kep S w w') (h2 : ∀ x : Addr, F = some x → ¬ S x.block) : Flt w' b F f := by
  rcases h with h | ⟨e, p, fb, h1, h2', h3, h4, h5⟩
  · exact .inl h
  · exact .inr ⟨e, p, fb, h1, h2', h3, h4.kep hk (h2 _ h2'), h5⟩

theorem blk_there {w : World} {b : Nat} {C : Array Value} {t : TypeId} (h : Blk w b C t) (hn : 32 ≤ C.size) : w.there b 0 32 := fun j hj => by
  rw [Nat.zero_add]
  refine ⟨?_, h.frozen j⟩
  rw [h.cell j (Array.getElem?_eq_getElem (by omega))]
  rfl

end Cd
end Go.Proofs.YtcefjigbaglmeaaGreat
end

section
/-
  What is read of bytes has no other bytes: numbers, hashes, byte strings. Plain facts; no program.
  Conditions: bytes; a place among them.
-/
namespace Go.Proofs.YtcefjigbaglmeaaGreat
open Go.RowKit Go.Shelf
set_option linter.unusedVariables false
namespace Cd

theorem val_front (zs : List Int) (k : Nat) : ∀ m, val zs k (m + 1) = zs.getD k 0 % 128 + 128 * val zs (k + 1) m := by
  intro m
  induction m with
  | zero => simp [val]
  | succ m ih =>
    show val zs k (m + 1) + zs.getD (k + (m + 1)) 0 % 128 * 128 ^ (m + 1) = zs.getD k 0 % 128 + 128 * (val zs (k + 1) m + zs.getD (k + 1 + m) 0 % 128 * 128 ^ m)
    rw [ih, pow1, show k + 1 + m = k + (m + 1) by omega]
    generalize zs.getD (k + (m + 1)) 0 % 128 = t
    generalize (128 : Int) ^ m = p
    generalize val zs (k + 1) m = v
    have : t * (p * 128) = 128 * (t * p) := by rw [← Int.mul_assoc, Int.mul_comm]
    rw [this]
    omega
theorem val_pos (zs : List Int) (k j : Nat) (h0 : 0 < zs.getD (k + j) 0) (h1 : zs.getD (k + j) 0 < 128) : 1 ≤ val zs k (j + 1) := by
  show 1 ≤ val zs k j + zs.getD (k + j) 0 % 128 * 128 ^ j
  have h2 := (val_lt zs k j).1
  have h3 := pow0 j
  have h4 : (1 : Int) ≤ zs.getD (k + j) 0 % 128 := by omega
  have h5 : 1 * (128 : Int) ^ j ≤ zs.getD (k + j) 0 % 128 * 128 ^ j := Int.mul_le_mul_of_nonneg_right h4 (by omega)
  omega
theorem val_max (zs : List Int) (k j : Nat) (hj : j < 10) (h9 : j = 9 → zs.getD (k + j) 0 = 1) : val zs k (j + 1) ≤ 18446744073709551615 := by
  have hp : ∀ m : Fin 10, (128 : Int) ^ m.1 ≤ 9223372036854775808 := by decide
  rcases Nat.lt_or_ge j 9 with h | h
  · have h1 := (val_lt zs k (j + 1)).2
    have h2 := hp ⟨j + 1, by omega⟩
    simp only at h2
    omega
  · obtain rfl : j = 9 := by omega
    show val zs k 9 + zs.getD (k + 9) 0 % 128 * 128 ^ 9 ≤ _
    rw [h9 rfl]
    have h1 := (val_lt zs k 9).2
    have e9 : (128 : Int) ^ 9 = 9223372036854775808 := by decide
    rw [e9] at *
    omega
theorem drop_cons (zs : List Int) (k m : Nat) (hk : k < zs.length) : (zs.drop k).take (m + 1) = zs.getD k 0 :: (zs.drop (k + 1)).take m := by
  rw [List.drop_eq_getElem_cons hk, List.take_succ_cons, getD_eq _ _ hk]
/-- A number that was read has just the bytes that it was read of. -/
theorem enc_val (zs : List Int) (hb : Bytes zs) : ∀ (j f k : Nat), j ≤ f → k + j < zs.length → (∀ i, i < j → 128 ≤ zs.getD (k + i) 0) → zs.getD (k + j) 0 < 128 → (0 < j → 0 < zs.getD (k + j) 0) → encN f (val zs k (j + 1)) = (zs.drop k).take (j + 1) := by
  intro j
  induction j with
  | zero =>
    intro f k _ hk _ hl _
    have h0 := hb k
    have hl : zs.getD k 0 < 128 := hl
    have e : val zs k (0 + 1) = zs.getD k 0 := by
      rw [val_front]
      show zs.getD k 0 % 128 + 128 * 0 = _
      omega
    rw [e, encN_small _ hl, drop_cons zs k 0 (by omega)]
    simp
  | succ j ih =>
    intro f k hf hk hg hl hp
    obtain ⟨f, rfl⟩ : ∃ g, f = g + 1 := ⟨f - 1, by omega⟩
    have e : k + 1 + j = k + (j + 1) := by omega
    have hv := val_pos zs (k + 1) j (by rw [e]; exact hp (by omega)) (by rw [e]; exact hl)
    have h0 := hb k
    have h1 := hg 0 (by omega)
    rw [Nat.add_zero] at h1
    have hi := ih f (k + 1) (by omega) (by omega) (fun i hi => by rw [show k + 1 + i = k + (i + 1) by omega]; exact hg (i + 1) (by omega)) (by rw [e]; exact hl) (fun _ => by rw [e]; exact hp (by omega))
    rw [val_front, drop_cons zs k (j + 1) (by omega), encN_great f (by omega), ← hi]
    generalize val zs (k + 1) (j + 1) = v at *
    generalize zs.getD k 0 = z at *
    rw [show (z % 128 + 128 * v) % 128 + 128 = z by omega, show (z % 128 + 128 * v) / 128 = v by omega]

/-- How reading a thing comes out: its bytes stand there, or a fault at the place. -/
def Out (zs : List Int) (k : Nat) (more : List Int) (k' : Nat) (f' : Option (Int × Int)) : Prop :=
  (f' = none ∧ k' ≤ zs.length ∧ zs.take k ++ more = zs.take k') ∨ (∃ e, e ≠ 0 ∧ f' = some (e, (k : Int)) ∧ k' = k)
theorem take_more (zs : List Int) (k m : Nat) : zs.take k ++ (zs.drop k).take m = zs.take (k + m) := List.take_add.symm

theorem ru_of (zs : List Int) (hb : Bytes zs) (k : Nat) (hk : k ≤ zs.length) : ∃ x k' f', RU zs k none x k' f' ∧ 0 ≤ x ∧ x ≤ 18446744073709551615 ∧ Out zs k (enc x) k' f' := by
  obtain ⟨n, tl, e, bad, hw⟩ := way_of zs hb k
  rcases id hw with ⟨h, _⟩ | ⟨k0, hk0, _, rfl, rfl, rfl, he⟩ | ⟨k0, j, hk0, hj, hkj, hg, hl, hp, h9, rfl, rfl, rfl, rfl⟩
  · omega
  · obtain rfl : k0 = k := by omega
    have h0 : e ≠ 0 := by rcases he with ⟨rfl, _⟩ | ⟨rfl, _⟩ | ⟨rfl, _⟩ <;> decide
    exact ⟨0, k0, some (e, (k0 : Int)), .inr ⟨rfl, 0, e, k0, hw, .inr ⟨h0, rfl, rfl⟩, hk, fun _ => rfl⟩, by decide, by decide, .inr ⟨e, h0, rfl, rfl⟩⟩
  · obtain rfl : k0 = k := by omega
    refine ⟨_, k0 + j + 1, none, .inr ⟨rfl, _, 0, 0, hw, .inl ⟨rfl, by omega, rfl⟩, by omega, fun h => absurd rfl h⟩, (val_lt zs k0 (j + 1)).1, val_max zs k0 j hj h9, .inl ⟨rfl, by omega, ?_⟩⟩
    show zs.take k0 ++ encN 9 (val zs k0 (j + 1)) = _
    rw [enc_val zs hb j 9 k0 (by omega) hkj hg hl hp, take_more, Nat.add_assoc]

theorem rh_of (zs : List Int) (k : Nat) (hk : k ≤ zs.length) : ∃ hs k' f', RH zs k none hs k' f' ∧ hs.length = 32 ∧ Out zs k hs k' f' := by
  rcases Nat.lt_or_ge zs.length (k + 32) with h | h
  · exact ⟨_, k, _, .inr ⟨rfl, .inr ⟨h, rfl, rfl, rfl⟩⟩, List.length_replicate, .inr ⟨6, by decide, rfl, rfl⟩⟩
  · exact ⟨_, _, _, .inr ⟨rfl, .inl ⟨h, rfl, rfl, rfl⟩⟩, by simp; omega, .inl ⟨rfl, h, take_more zs k 32⟩⟩

theorem rb_of (zs : List Int) (hb : Bytes zs) (k : Nat) (hk : k ≤ zs.length) : ∃ ys k' f', RB zs k none 400 ys k' f' ∧ ys.length ≤ zs.length ∧ Out zs k (enc (ys.length : Int) ++ ys) k' f' := by
  obtain ⟨n, tl, e, bad, hw⟩ := way_of zs hb k
  rcases id hw with ⟨h, _⟩ | ⟨k0, hk0, _, rfl, rfl, rfl, he⟩ | ⟨k0, j, hk0, hj, hkj, hg, hl, hp, h9, rfl, rfl, rfl, rfl⟩
  · omega
  · obtain rfl : k0 = k := by omega
    have h0 : e ≠ 0 := by rcases he with ⟨rfl, _⟩ | ⟨rfl, _⟩ | ⟨rfl, _⟩ <;> decide
    exact ⟨[], k0, some (e, (k0 : Int)), .inr ⟨rfl, 0, e, k0, ⟨0, 0, e, k0, hw, by decide, by decide, .inl ⟨h0, rfl, rfl, rfl, rfl⟩⟩, .inr ⟨h0, rfl, rfl⟩, hk, fun _ => rfl⟩, by simp, .inr ⟨e, h0, rfl, rfl⟩⟩
  · obtain rfl : k0 = k := by omega
    have hv0 := (val_lt zs k0 (j + 1)).1
    have hv1 := val_max zs k0 j hj h9
    have hen := enc_val zs hb j 9 k0 (by omega) hkj hg hl hp
    rcases Int.lt_or_le 400 (val zs k0 (j + 1)) with hgt | hle
    · exact ⟨[], k0, some (4, (k0 : Int)), .inr ⟨rfl, 0, 4, k0, ⟨_, _, 0, 0, hw, hv0, hv1, .inr (.inl ⟨rfl, .inr hgt, rfl, rfl, rfl, rfl⟩)⟩, .inr ⟨by decide, rfl, rfl⟩, hk, fun _ => rfl⟩, by simp, .inr ⟨4, by decide, rfl, rfl⟩⟩
    · obtain ⟨m, hm⟩ := Int.eq_ofNat_of_zero_le hv0
      rcases Nat.lt_or_ge zs.length (k0 + j + 1 + m) with hlt | hge
      · exact ⟨[], k0, some (6, (k0 : Int)), .inr ⟨rfl, 0, 6, k0, ⟨_, _, 0, 0, hw, hv0, hv1, .inr (.inr (.inl ⟨k0 + j + 1, by omega, by omega, rfl, by decide, hle, by omega, rfl, rfl, rfl, rfl⟩))⟩, .inr ⟨by decide, rfl, rfl⟩, hk, fun _ => rfl⟩, by simp, .inr ⟨6, by decide, rfl, rfl⟩⟩
      · have hl32 : ((zs.drop (k0 + j + 1)).take m).length = m := by simp; omega
        refine ⟨(zs.drop (k0 + j + 1)).take m, k0 + j + 1 + m, none, .inr ⟨rfl, ((k0 + j + 1 + m : Nat) : Int), 0, 0, ⟨_, _, 0, 0, hw, hv0, hv1, .inr (.inr (.inr ⟨k0 + j + 1, m, by omega, hm, hge, rfl, by decide, hle, rfl, rfl, rfl, rfl⟩))⟩, .inl ⟨rfl, rfl, rfl⟩, hge, fun h => absurd rfl h⟩, by rw [hl32]; omega, .inl ⟨rfl, hge, ?_⟩⟩
        rw [hl32, ← take_more zs (k0 + j + 1) m, ← List.append_assoc]
        congr 1
        show zs.take k0 ++ encN 9 (m : Int) = _
        rw [← hm, hen, take_more, Nat.add_assoc]
end Cd
end Go.Proofs.YtcefjigbaglmeaaGreat
end

section
/-
  What U, Hash and Blob of a reader without a fault answer in this program: the reader's bytes lie where they lay.
  Conditions: the reader is one that NewReader made of at most 10^6 bytes.
-/
namespace Go.Proofs.YtcefjigbaglmeaaGreat
open Go.RowKit Go.Shelf
set_option linter.unusedVariables false
namespace Cd

/-- A reader whose bytes lie at a known place, and whose fault is new. -/
def RX (w : World) (b : Nat) (A : Option Addr) (n c : Nat) (zs : List Int) (k : Nat) (f : Option (Int × Int)) (base : Nat) : Prop :=
  ∃ F, RSt w b A n c zs k F ∧ Flt w b F f ∧ ∀ x : Addr, F = some x → base ≤ x.block
theorem RX.rs {w : World} {b : Nat} {A : Option Addr} {n c : Nat} {zs : List Int} {k : Nat} {f : Option (Int × Int)} {base : Nat} (h : RX w b A n c zs k f base) : RS w b zs k f := by
  obtain ⟨F, h1, h2, _⟩ := h
  exact ⟨A, n, c, F, h1, h2⟩
theorem RX.rst {w : World} {b : Nat} {A : Option Addr} {n c : Nat} {zs : List Int} {k : Nat} {base : Nat} (h : RX w b A n c zs k none base) : RSt w b A n c zs k none := by
  obtain ⟨F, h1, ⟨_, rfl⟩ | ⟨_, _, _, h2, _⟩, _⟩ := h
  · exact h1
  · cases h2

set_option maxRecDepth 100000 in
set_option maxHeartbeats 1000000 in
theorem itemUx (b : Nat) (A : Option Addr) (n c : Nat) (zs : List Int) (k : Nat) (x tl e bad : Int) (k' : Nat) (f' : Option (Int × Int)) (w : World) (h : RSt w b A n c zs k none) (hw : Way zs k x tl e bad) (hm : Moves k tl e bad k' f') (hk' : k' ≤ n) (hx : e ≠ 0 → x = 0) :
    Calls Tryz.prog 100 #[.pointer (some ⟨b, 0, none⟩), .func (.func 88) #[] #[]] w fun r w' => r = .returned (.int .u64 x) ∧ RX w' b A n c zs k' f' w.heap.size ∧ Kep (fun i => i = b) w w' := by
  have T := Lib.hid (trouble b A n c zs k none w h)
  have H := Lib.hid h
  have G := Lib.hid (fun w' (hb : Bel w w') => (get A n c zs k x tl e bad w' (h.sl.bel hb).ints (by have := h.len; omega) h.bytes h.sl.cap hw).mono (R' := fun r w1 => r = .returned (got x tl e bad) ∧ Bel w' w1 ∧ w1.cell? ⟨b, 1, none⟩ = some (.slice A n c) ∧ w1.cell? ⟨b, 2, none⟩ = some (.int .i64 (k : Int))) fun r w1 hr => ⟨hr.1, hr.2, (h.blk.bel (hb.trans hr.2)).cell 1 rfl, (h.blk.bel (hb.trans hr.2)).cell 2 rfl⟩)
  have c1 : w.cell? ⟨b, 1, none⟩ = some (.slice A n c) := h.blk.cell 1 rfl
  have c2 : w.cell? ⟨b, 2, none⟩ = some (.int .i64 (k : Int)) := h.blk.cell 2 rfl
  have n1 := World.new_ne w _ c1
  have D := Lib.hid (laid w 32)
  clear h hw
  go_enter Tryz.func100, Tryz.ntmps100
  go_upto_region 2 with (go_at_call 69; refine (T.out).mono ?_; rintro e w' ⟨rfl, rfl⟩)
  go_cut [5, 6, 7] (fun s5 s6 s7 wx => ∃ g : Nat, s5 = .int .u64 x ∧ s6 = .int .i64 tl ∧ s7 = .pointer (some ⟨g, 0, none⟩) ∧ w.heap.size ≤ g ∧ Blk wx g #[.int .i64 e, .int .i64 bad] 32 ∧ Bel w wx)
  case first =>
    go_region_held3 (fun w' => w'.cell? ⟨b, 1, none⟩ = some (.slice A n c) ∧ w'.cell? ⟨b, 2, none⟩ = some (.int .i64 (k : Int))) (go_keep)
      (first | (go_at_call 88; first | (refine (G.out _ ?_).mono ?_; exact ((Bel.refl _).alloc _).drew; rintro r w1 ⟨rfl, hb1, k1, k2⟩; obtain ⟨d0, d1, d2, d3, dB⟩ := D.out w1 hb1; have hb2 : Bel w w1 := (((Bel.refl _).alloc _).drew).trans hb1; have hbig := Below.size hb1; clear hb1) | (refine (G.out _ ?_).mono ?_; exact (Bel.refl _).drew; rintro r w1 ⟨rfl, hb1, k1, k2⟩; have hb2 : Bel w w1 := (Bel.refl _).drew.trans hb1; clear hb1)))
    all_goals (go_wp2_with fail; go_meet; first | exact ⟨w1.heap.size, rfl, rfl, rfl, Below.size hb2, Blk.new _ _ _, hb2.alloc _⟩ | exact ⟨w.heap.size, rfl, rfl, rfl, Nat.le_refl _, (dB.out.set 0 _).set 1 _, (hb2.set (Nat.le_refl _) _).set (Nat.le_refl _) _⟩)
  case rest =>
    obtain ⟨g, rfl, rfl, rfl, hg, hG, hbel⟩ := hcut
    have HG := Lib.hid hG
    have HB := Lib.hid hbel
    have HR := Lib.hid (H.out.bel hbel)
    have g0 : wc.cell? ⟨g, 0, none⟩ = some (.int .i64 e) := hG.cell 0 rfl
    have hbl := H.out.blk.lt
    have hne : g ≠ b := by omega
    clear hG hbel c1 c2 n1
    rcases hm with ⟨rfl, rfl, rfl⟩ | ⟨he, rfl, rfl⟩
    · have k2 : wc.cell? ⟨b, 2, none⟩ = some (.int .i64 (k : Int)) := HR.out.blk.cell 2 rfl
      have f2 := HR.out.blk.frozen 2
      go_wp2
      go_ret
      exact ⟨rfl, ⟨none, HR.out.move hk', .inl ⟨rfl, rfl⟩, fun x hx => by cases hx⟩, (Kep.of_bel HB.out).set_self _ _⟩
    · have k3 : wc.cell? ⟨b, 3, none⟩ = some (.pointer none) := HR.out.blk.cell 3 rfl
      have f3 := HR.out.blk.frozen 3
      have fe : (e != 0) = true := by rw [bne_iff_ne]; exact he
      have HE := Lib.hid he
      have HX := Lib.hid (hx he)
      clear he hx
      go_wp2
      go_ret
      exact ⟨by rw [HX.out]; rfl, ⟨_, HR.out.fault (some ⟨g, 0, none⟩), .inr ⟨e, bad, g, rfl, rfl, hne, HG.out.other hne 3 _, HE.out⟩, fun x hx => by cases hx; exact hg⟩, (Kep.of_bel HB.out).set_self _ _⟩



theorem rUx (b : Nat) (A : Option Addr) (n c : Nat) (zs : List Int) (k : Nat) (x : Int) (k' : Nat) (f' : Option (Int × Int)) (w : World) (hs : RSt w b A n c zs k none) (hr : RU zs k none x k' f') :
    Calls Tryz.prog 90 #[.pointer (some ⟨b, 0, none⟩)] w fun e w' => e = .returned (.int .u64 x) ∧ RX w' b A n c zs k' f' w.heap.size ∧ Kep (fun i => i = b) w w' := by
  rcases hr with ⟨p, h, _⟩ | ⟨_, tl, e, bad, hw, hm, hk, hx⟩
  · cases h
  have IT := Lib.hid (itemUx b A n c zs k x tl e bad k' f' w hs hw hm (by rw [← hs.sl.len]; exact hk) hx)
  clear hs hw hm hk hx
  go_enter Tryz.func90, Tryz.ntmps90
  go_wp2_with fail
  refine (IT.out).mono ?_
  rintro e w' ⟨rfl, h1, h2⟩
  have H1 := Lib.hid h1
  have H2 := Lib.hid h2
  clear h1 h2
  go_wp2
  go_ret
  exact ⟨rfl, H1.out, H2.out⟩


end Cd
end Go.Proofs.YtcefjigbaglmeaaGreat
end

section
/-
  distraintkit.Pick among three; whether a reader has a fault.
  Conditions: the reader is one that NewReader made of at most 10^6 bytes.
-/
namespace Go.Proofs.YtcefjigbaglmeaaGreat
open Go.RowKit Go.Shelf
set_option linter.unusedVariables false
namespace Cd

theorem RS.le {w : World} {b : Nat} {zs : List Int} {k : Nat} {f : Option (Int × Int)} (h : RS w b zs k f) : k ≤ zs.length ∧ zs.length ≤ 1000000 := by
  obtain ⟨A, n, c, F, h1, _⟩ := h
  rw [h1.sl.len]
  exact ⟨h1.le, h1.len⟩
theorem RS.lt {w : World} {b : Nat} {zs : List Int} {k : Nat} {f : Option (Int × Int)} (h : RS w b zs k f) : b < w.heap.size := by
  obtain ⟨A, n, c, F, h1, _⟩ := h
  exact h1.blk.lt

end Cd
end Go.Proofs.YtcefjigbaglmeaaGreat
end

section
/-
  The walk of the law CodecKnown: the chapter's examples are answered as it says. No condition.
-/
namespace Go.Proofs.YtcefjigbaglmeaaGreat
open Go.RowKit Go.Shelf
set_option linter.unusedVariables false
namespace Cd

theorem enc_127 : enc 127 = [127] := by decide
theorem enc_128 : enc 128 = [128, 1] := by decide
theorem enc_max : (enc 18446744073709551615).length = 10 := by decide
theorem enc_5 : enc 5 = [5] := by decide
theorem enc_2 : enc 2 = [2] := by decide
theorem enc_1 : enc 1 = [1] := by decide
theorem way_80 : Way [128] 0 0 0 6 0 := .inr (.inl ⟨0, rfl, by decide, rfl, rfl, rfl, .inl ⟨rfl, by decide, by intro i h; match i, h with | 0, _ => decide⟩⟩)
theorem way_out : Way [0] 2 0 0 3 0 := .inl ⟨.inr (by decide), rfl, rfl, rfl, rfl⟩
theorem way_nine : Way [255, 255, 255, 255, 255, 255, 255, 255, 255, 2] 0 0 0 5 0 := .inr (.inl ⟨0, rfl, by decide, rfl, rfl, rfl, .inr (.inr ⟨rfl, 9, by decide, by decide, by decide, by decide, by decide, .inr ⟨rfl, by decide⟩⟩)⟩)
theorem bytes_128 : Bytes [128] := bytes_of (by decide)
theorem bytes_0 : Bytes [0] := bytes_of (by decide)
theorem bytes_nine : Bytes [255, 255, 255, 255, 255, 255, 255, 255, 255, 2] := bytes_of (by decide)
abbrev ex : List Int := [5, 2, 97, 98, 1]
theorem bytes_ex : Bytes ex := bytes_of (by decide)
theorem rn_0 : RN ex 0 none 0 9 5 1 none := .inr ⟨rfl, 1, 0, 0, ⟨5, 1, 0, 0, .inr (.inr ⟨0, 0, rfl, by decide, by decide, by intro i h; omega, by decide, by decide, by decide, by decide, rfl, rfl, rfl⟩), by decide, by decide, .inr (.inr ⟨rfl, by decide, by decide, rfl, rfl, rfl, rfl⟩)⟩, .inl ⟨rfl, rfl, rfl⟩, by decide, by decide⟩
theorem rb_1 : RB ex 1 none 9 [97, 98] 4 none := .inr ⟨rfl, 4, 0, 0, ⟨2, 2, 0, 0, .inr (.inr ⟨1, 0, rfl, by decide, by decide, by intro i h; omega, by decide, by decide, by decide, by decide, rfl, rfl, rfl⟩), by decide, by decide, .inr (.inr (.inr ⟨2, 2, rfl, rfl, by decide, rfl, by decide, by decide, rfl, rfl, rfl, rfl⟩))⟩, .inl ⟨rfl, rfl, rfl⟩, by decide, by decide⟩
theorem rn_4 : RN ex 4 none 2 9 0 4 (some (3, 4)) := .inr ⟨rfl, 0, 3, 4, ⟨1, 5, 0, 0, .inr (.inr ⟨4, 0, rfl, by decide, by decide, by intro i h; omega, by decide, by decide, by decide, by decide, rfl, rfl, rfl⟩), by decide, by decide, .inr (.inl ⟨rfl, .inl (by decide), rfl, rfl, rfl, rfl⟩)⟩, .inr ⟨by decide, rfl, rfl⟩, by decide, fun _ => rfl⟩
theorem ru_4 : RU ex 4 (some (3, 4)) 0 4 (some (3, 4)) := .inl ⟨_, rfl, rfl, rfl, rfl⟩

theorem sl_lit1 (w : World) (o : Obj) (zs : List Int) : Sl ((w.alloc o).alloc (.cells (zs.map (Value.int .u8)).toArray 5)) (some ⟨w.heap.size + 1, 0, none⟩) zs.length zs.length zs := by
  have h := sl_lit (w.alloc o) zs
  rwa [World.size_alloc] at h

theorem sl_mark (w : World) (zs : List Int) (fr : Nat × Nat) : Sl (w.alloc (.cells (zs.map (Value.int .u8)).toArray 5 fr)) (some ⟨w.heap.size, 0, none⟩) zs.length zs.length zs := by
  refine ⟨⟨rfl, fun hn => ⟨w.heap.size, 0, rfl, by simp, fun i hi => ?_⟩⟩, Nat.le_refl _, fun h => by cases h⟩
  rw [Nat.zero_add, World.cell?_alloc_mark, List.getElem?_toArray, List.getElem?_map, List.getElem?_eq_getElem hi, getD_eq _ _ hi]
  rfl

/-- A writer's call keeps what was there ahead of the writer. -/
theorem step_bel {w w1 w2 : World} {b : Nat} {L : Int} {v : Value} {err : Int} {out : List Int} {base : Nat} (hb : Bel w w1) (h : WS w1 b L v err out base) (h1 : w.heap.size ≤ b) (h2 : w.heap.size ≤ base) (hk : Kep (Own2 b v) w1 w2) : Bel w w2 :=
  Kep.bel hb hk (fun k hs => by
    rcases hs with rfl | hs
    · exact h1
    · exact Nat.le_trans h2 (h.row.lt k hs).1)
theorem after_ok {w : World} {b : Nat} {L r : Int} {out more : List Int} {base : Nat} (h : After w b L r out more base) (hf : ((out ++ more).length : Int) ≤ L) : r = 0 ∧ ∃ v, WS w b L v 0 (out ++ more) base := by
  rcases h with ⟨h1, _, h3⟩ | ⟨h1, h2, _⟩
  · exact ⟨h1, h3⟩
  · omega
theorem after_long {w : World} {b : Nat} {L r : Int} {out more : List Int} {base : Nat} (h : After w b L r out more base) (hf : L < ((out ++ more).length : Int)) : r = 4 ∧ WS w b L (.slice none 0 0) 4 [] base := by
  rcases h with ⟨h1, h2, _⟩ | ⟨h1, _, h3⟩
  · omega
  · exact ⟨h1, h3⟩

end Cd
end Go.Proofs.YtcefjigbaglmeaaGreat
end

section
/-
  The walk of the law CodecOne: it returns true, and what was there is as it was.
  Conditions: a slice that reads as bytes, a slice that reads as integers.
-/
namespace Go.Proofs.YtcefjigbaglmeaaGreat
open Go.RowKit Go.Shelf
set_option linter.unusedVariables false
namespace Cd

theorem wkeep {w w' : World} {b d : Nat} {L err : Int} {v : Value} {out : List Int} (h : WS w b L v err out b) (hk : Kep (fun i => i = d) w w') (hdb : d < b) : WS w' b L v err out b :=
  h.kep hk (Nat.ne_of_gt hdb) (fun q hq e => by have := (h.row.lt q hq).1; omega)
theorem rkeep {w w' : World} {b d : Nat} {L err : Int} {v : Value} {out : List Int} {A : Option Addr} {n c : Nat} {zs : List Int} {k : Nat} {F : Option Addr} (h : RSt w d A n c zs k F) (hw : WS w b L v err out b) (hk : Kep (Own2 b v) w w') (hdb : d < b) (hA : 0 < n → ∀ x : Addr, A = some x → x.block < b) : RSt w' d A n c zs k F :=
  h.kep0 hk (fun hS => by
    rcases hS with e | e
    · omega
    · have := (hw.row.lt _ e).1; omega) (fun hn x hx hS => by
    have := hA hn x hx
    rcases hS with e | e
    · omega
    · have := (hw.row.lt _ e).1; omega)
theorem fresh_take {w w' : World} {u : Value} {zs : List Int} {k : Nat} (h : Fresh w w' u (zs.take k)) (hk : k ≤ zs.length) : ∃ A c, u = .slice A k c ∧ Sl w' A k c (zs.take k) := by
  obtain ⟨A, c, h1, h2⟩ := h.sl
  have e : (zs.take k).length = k := by rw [List.length_take]; omega
  rw [e] at h1 h2
  exact ⟨A, c, h1, h2⟩
theorem rs_of {w : World} {d : Nat} {A : Option Addr} {n c : Nat} {zs : List Int} {k : Nat} (h : RSt w d A n c zs k none) : RS w d zs k none := ⟨A, n, c, none, h, .inl ⟨rfl, rfl⟩⟩
theorem own_lt {w : World} {A : Option Addr} {n c : Nat} {zs : List Int} (h : Sl w A n c zs) : 0 < n → ∀ x : Addr, A = some x → x.block < w.heap.size := fun hn x hx => by
  obtain ⟨b', o', h1, h2, _⟩ := h.ints.2 hn
  rw [h1] at hx
  cases hx
  exact h2

end Cd
end Go.Proofs.YtcefjigbaglmeaaGreat
end

section
/-
  What writers and readers answer in this program that are nil, or that nobody made: they have nothing.
  Conditions: nil, or an object whose first cell is nil.
-/
namespace Go.Proofs.YtcefjigbaglmeaaGreat
open Go.RowKit Go.Shelf
set_option linter.unusedVariables false
namespace Cd

theorem eqIn_nil {w : World} (d : Nat) (t e : TypeId) (a : Addr) (ht : Tryz.prog.underlying t = some (.pointer e)) : (Op.equalIn (d + 1) t (.pointer none) (.pointer (some a))).run Tryz.prog w = .ok false w := by
  simp [Op.equalIn, run_underlying ht]
theorem neq_nil {w : World} (t e : TypeId) (a : Addr) (ht : Tryz.prog.underlying t = some (.pointer e)) : (binOp .neq t (.pointer none) (.pointer (some a))).run Tryz.prog w = .ok (.bool true) w := by
  simp only [binOp]
  simp [Op.equal, Op.maxDepth, eqIn_nil 9999 t e a ht]
/-- Nil, or made by nobody. -/
def Null (w : World) (v : Value) : Prop := v = .pointer none ∨ ∃ b, v = .pointer (some ⟨b, 0, none⟩) ∧ w.cell? ⟨b, 0, none⟩ = some (.pointer none)
theorem Null.bel {w w' : World} {v : Value} (h : Null w v) (hb : Bel w w') : Null w' v := by
  rcases h with rfl | ⟨b, rfl, hc⟩
  · exact .inl rfl
  · exact .inr ⟨b, rfl, bel_cell hb hc⟩

set_option maxRecDepth 100000 in
theorem wstate0 (v : Value) (w : World) (h : Null w v) : Calls Tryz.prog 53 #[v] w fun e w' => e = .returned (.int .i64 1) ∧ w = w' := by
  have hq := fun (b : Nat) (w : World) => neq_nil (w := w) 46 93 ⟨b, 0, none⟩ Tryz.underlying46
  rcases h with rfl | ⟨b, rfl, c0⟩
  all_goals
    go_enter Tryz.func53, Tryz.ntmps53
    go_wp2
    go_ret
    exact ⟨rfl, rfl⟩
set_option maxRecDepth 100000 in
theorem write0 (v s : Value) (w : World) (h : Null w v) : Calls Tryz.prog 57 #[v, s] w fun e w' => e = .returned (.int .i64 1) ∧ w = w' := by
  have ST := Lib.hid (wstate0 v w h)
  clear h
  go_enter Tryz.func57, Tryz.ntmps57
  go_wp2_with (go_at_call 53; refine (ST.out).mono ?_; rintro e w' ⟨rfl, rfl⟩)
  go_ret
  exact ⟨rfl, rfl⟩
set_option maxRecDepth 100000 in
theorem wDone0 (v : Value) (w : World) (h : Null w v) : Calls Tryz.prog 24 #[v] w fun e w' => e = .returned (.tuple #[.slice none 0 0, .int .i64 1]) ∧ w = w' := by
  have ST := Lib.hid (wstate0 v w h)
  clear h
  go_enter Tryz.func24, Tryz.ntmps24
  go_wp2_with (go_at_call 53; refine (ST.out).mono ?_; rintro e w' ⟨rfl, rfl⟩)
  go_ret2
  exact ⟨rfl, rfl⟩
set_option maxRecDepth 100000 in
theorem wN0 (v : Value) (x : Int) (w : World) (h : Null w v) : Calls Tryz.prog 21 #[v, .int .i64 x] w fun e w' => e = .returned (.int .i64 1) ∧ w = w' := by
  have ST := Lib.hid (wstate0 v w h)
  clear h
  go_enter Tryz.func21, Tryz.ntmps21
  go_wp2_with (go_at_call 53; refine (ST.out).mono ?_; rintro e w' ⟨rfl, rfl⟩)
  go_ret
  exact ⟨rfl, rfl⟩
set_option maxRecDepth 100000 in
theorem wU0 (v : Value) (x : Int) (w : World) (h : Null w v) (x0 : 0 ≤ x) (x1 : x ≤ 18446744073709551615) : Calls Tryz.prog 23 #[v, .int .u64 x] w fun e w' => e = .returned (.int .i64 1) ∧ Bel w w' := by
  have P1 := Lib.hid (fun w' => put x w' x0 x1)
  have WR := Lib.hid (fun s w' (hb : Bel w w') => write0 v s w' (h.bel hb))
  clear h x1
  go_enter Tryz.func23, Tryz.ntmps23
  go_wp2_with fail
  refine (P1.out _).mono ?_
  rintro e w1 ⟨u, rfl, hu, b1⟩
  have b1 : Bel w w1 := b1
  obtain ⟨Au, cu, hue, _⟩ := sl_of_own hu
  subst hue
  clear hu
  go_wp2_with fail
  refine (WR.out _ _ (b1.alloc _)).mono ?_
  rintro e w2 ⟨rfl, rfl⟩
  go_wp2
  go_ret
  exact ⟨rfl, b1.alloc _⟩
/-! ### Readers -/
set_option maxRecDepth 100000 in
theorem trouble0 (v : Value) (w : World) (h : Null w v) : Calls Tryz.prog 69 #[v] w fun e w' => e = .returned (.pointer (some ⟨w.heap.size, 0, none⟩)) ∧ w.alloc (.cells #[.int .i64 1, .int .i64 0] 32) = w' := by
  have hq := fun (b : Nat) (w : World) => neq_nil (w := w) 61 105 ⟨b, 0, none⟩ Tryz.underlying61
  rcases h with rfl | ⟨b, rfl, c0⟩
  all_goals
    go_enter Tryz.func69, Tryz.ntmps69
    go_wp2
    go_ret
    exact ⟨rfl, rfl⟩
set_option maxRecDepth 100000 in
theorem rAt0 (v : Value) (w : World) (h : Null w v) : Calls Tryz.prog 65 #[v] w fun e w' => e = .returned (.int .i64 0) ∧ Bel w w' := by
  have TR := Lib.hid (trouble0 v w h)
  clear h
  go_enter Tryz.func65, Tryz.ntmps65
  go_wp2_with (go_at_call 69; refine (TR.out).mono ?_; rintro e w' ⟨rfl, rfl⟩)
  go_ret
  exact ⟨rfl, (Bel.refl _).alloc _⟩
set_option maxRecDepth 100000 in
theorem rLeft0 (v : Value) (w : World) (h : Null w v) : Calls Tryz.prog 70 #[v] w fun e w' => e = .returned (.int .i64 0) ∧ Bel w w' := by
  have TR := Lib.hid (trouble0 v w h)
  clear h
  go_enter Tryz.func70, Tryz.ntmps70
  go_wp2_with (go_at_call 69; refine (TR.out).mono ?_; rintro e w' ⟨rfl, rfl⟩)
  go_ret
  exact ⟨rfl, (Bel.refl _).alloc _⟩
set_option maxRecDepth 100000 in
theorem rFail0 (v : Value) (e p : Int) (w : World) (h : Null w v) : Calls Tryz.prog 67 #[v, .int .i64 e, .int .i64 p] w fun r w' => r = .returned (.tuple #[]) ∧ Bel w w' := by
  have TR := Lib.hid (trouble0 v w h)
  clear h
  by_cases he : e = 0
  · have fe : (e != 0) = false := by rw [he]; rfl
    clear he
    go_enter Tryz.func67, Tryz.ntmps67
    go_wp2
    go_end0
    exact ⟨rfl, Bel.refl _⟩
  · have fe : (e != 0) = true := by rw [bne_iff_ne]; exact he
    clear he
    go_enter Tryz.func67, Tryz.ntmps67
    go_wp2_with (go_at_call 69; refine (TR.out).mono ?_; rintro r w' ⟨rfl, rfl⟩)
    go_end0
    exact ⟨rfl, (Bel.refl _).alloc _⟩
set_option maxRecDepth 100000 in
theorem rEnd0 (v : Value) (w : World) (h : Null w v) : Calls Tryz.prog 33 #[v] w fun e w' => e = .returned (.agg #[.int .i64 1, .int .i64 0]) ∧ Bel w w' := by
  have TR := Lib.hid (fun w' (hb : Bel w w') => trouble0 v w' (h.bel hb))
  clear h
  go_enter Tryz.func33, Tryz.ntmps33
  go_wp2_with (go_at_call 69; refine (TR.out _ ((Bel.refl _).alloc _)).mono ?_; rintro e w' ⟨rfl, rfl⟩)
  refine bodyPost_ret (v := .agg #[.int .i64 1, .int .i64 0]) (by simp [results, Tryz.results33, go_sem]) rfl ⟨rfl, ?_⟩
  exact (((Bel.refl _).alloc _).alloc _)
set_option maxRecDepth 100000 in
theorem rU0 (v : Value) (w : World) (h : Null w v) : Calls Tryz.prog 90 #[v] w fun e w' => e = .returned (.int .u64 0) ∧ Bel w w' := by
  have TR := Lib.hid (trouble0 v w h)
  have IT : Hid (∀ fn, Calls Tryz.prog 100 #[v, fn] w fun e w' => e = .returned (.int .u64 0) ∧ Bel w w') := fun fn => by
    go_enter Tryz.func100, Tryz.ntmps100
    go_wp2_with (go_at_call 69; refine (TR.out).mono ?_; rintro e w' ⟨rfl, rfl⟩)
    go_ret
    exact ⟨rfl, (Bel.refl _).alloc _⟩
  clear h TR
  go_enter Tryz.func90, Tryz.ntmps90
  go_wp2_with fail
  refine (IT.out _).mono ?_
  rintro e w' ⟨rfl, hb⟩
  have HB := Lib.hid hb
  clear hb
  go_wp2
  go_ret
  exact ⟨rfl, HB.out⟩
set_option maxRecDepth 100000 in
theorem rN0 (v : Value) (p q : Int) (w : World) (h : Null w v) : Calls Tryz.prog 64 #[v, .int .i64 p, .int .i64 q] w fun e w' => e = .returned (.int .i64 0) ∧ Bel w w' := by
  have IT : Hid (∀ fn w1, Bel w w1 → Calls Tryz.prog 86 #[v, fn] w1 fun e w' => e = .returned (.int .i64 0) ∧ Bel w w') := fun fn w1 hb => by
    have TR := Lib.hid (trouble0 v w1 (h.bel hb))
    have HB := Lib.hid hb
    clear h hb
    go_enter Tryz.func86, Tryz.ntmps86
    go_wp2_with (go_at_call 69; refine (TR.out).mono ?_; rintro e w' ⟨rfl, rfl⟩)
    go_ret
    exact ⟨rfl, HB.out.alloc _⟩
  clear h
  go_enter Tryz.func64, Tryz.ntmps64
  go_wp2_with fail
  refine (IT.out _ _ (((Bel.refl _).alloc _).alloc _)).mono ?_
  rintro e w' ⟨rfl, hb⟩
  have HB := Lib.hid hb
  clear hb
  go_wp2
  go_ret
  exact ⟨rfl, HB.out⟩
end Cd
end Go.Proofs.YtcefjigbaglmeaaGreat
end

section
/-
  What stamp.Put makes of any writer, and what stamp.Bytes answers. Conditions: the writer is one that NewWriter made, or none.
-/
namespace Go.Proofs.YtcefjigbaglmeaaGreat
open Go.RowKit Go.Shelf
set_option linter.unusedVariables false
namespace Sm
open Cd

/-- A stamp's bytes. -/
def enc4 (a b c d : Int) : List Int := enc a ++ enc b ++ enc (c + 1) ++ enc d
/-- What a writer is behind a stamp. -/
def put4 (L : Int) (s : List Int × Int) (a b c d : Int) : List Int × Int :=
  if ck a b c d = 0 then stp L (stp L (stp L (stp L s (enc a)) (enc b)) (enc (c + 1))) (enc d) else s
theorem ck_ok {a b c d : Int} (h : ck a b c d = 0) : 0 ≤ a ∧ a ≤ 31 ∧ 1 ≤ b ∧ b ≤ 4294967296 ∧ -1 ≤ c ∧ c ≤ 31 ∧ 0 ≤ d ∧ d ≤ 4294967296 ∧ c ≠ a ∧ ((c = -1 ∧ d = 0) ∨ (c ≠ -1 ∧ d ≠ 0)) ∧ d ≤ b := by
  unfold ck at h
  split at h
  · cases h
  split at h
  · cases h
  split at h
  · cases h
  split at h
  · cases h
  omega

set_option maxHeartbeats 1000000 in
theorem refusal (b : Nat) (L : Int) (v : Value) (s : List Int × Int) (base : Nat) (e : Int) (w : World) (h : WS w b L v s.2 s.1 base) (h1 : s.2 ≠ 1) :
    Calls Tryz.prog 56 #[.pointer (some ⟨b, 0, none⟩), .int .i64 e] w fun r w' => r = .returned (.int .i64 e) ∧ Bel w w' := by
  obtain ⟨out, f⟩ := s
  by_cases hf : f = 0
  · subst hf
    have DN := Lib.hid (wdone b L v out base w h)
    clear h h1
    go_enter Tryz.func56, Tryz.ntmps56
    go_wp2_with fail
    refine (DN.out).mono ?_
    rintro r w1 ⟨u, rfl, hu⟩
    have KB := Lib.hid hu.2
    clear hu
    go_wp2_with fail
    go_ret
    exact ⟨rfl, KB.out⟩
  · have DN := Lib.hid (wdone_err b L v f out base w h hf)
    have f1 : (f == 1) = false := beq_eq_false_iff_ne.2 h1
    clear h h1 hf
    go_enter Tryz.func56, Tryz.ntmps56
    go_wp2_with fail
    refine (DN.out).mono ?_
    rintro r w1 ⟨rfl, rfl⟩
    go_wp2_with fail
    go_ret
    exact ⟨rfl, Bel.refl _⟩
theorem refusal0 (v : Value) (e : Int) (w : World) (h : Null w v) :
    Calls Tryz.prog 56 #[v, .int .i64 e] w fun r w' => r = .returned (.int .i64 1) ∧ Bel w w' := by
  have DN := Lib.hid (wDone0 v w h)
  clear h
  go_enter Tryz.func56, Tryz.ntmps56
  go_wp2_with fail
  refine (DN.out).mono ?_
  rintro r w1 ⟨rfl, rfl⟩
  go_wp2_with fail
  go_ret
  exact ⟨rfl, Bel.refl _⟩

set_option maxRecDepth 10000 in
set_option maxHeartbeats 2000000 in
theorem put (b : Nat) (L : Int) (v : Value) (s : List Int × Int) (base : Nat) (x1 x2 x3 x4 : Int) (w : World) (h : WS w b L v s.2 s.1 base) (h1 : s.2 ≠ 1) :
    Calls Tryz.prog 22 #[.pointer (some ⟨b, 0, none⟩), stV x1 x2 x3 x4] w fun r w' => r = .returned (.int .i64 (if ck x1 x2 x3 x4 = 0 then (put4 L s x1 x2 x3 x4).2 else ck x1 x2 x3 x4)) ∧
      ∃ v', WS w' b L v' (put4 L s x1 x2 x3 x4).2 (put4 L s x1 x2 x3 x4).1 base ∧ Lies w v v' ∧ Kep (Own2 b v) w w' := by
  have CK := Lib.hid (fun W => check x1 x2 x3 x4 W)
  have P0 := Lib.hid (Blk.new w #[.int .i64 x1, .int .i64 x2, .int .i64 x3, .int .i64 x4] 51)
  have B0 := Lib.hid ((Bel.refl w).alloc (.cells #[.int .i64 x1, .int .i64 x2, .int .i64 x3, .int .i64 x4] 51))
  have H := Lib.hid h
  have hbl := h.blk.lt
  have hrl := h.row_lt
  have HBL := Lib.hid hbl
  have HRL := Lib.hid hrl
  clear h hbl hrl
  obtain ⟨p, hp⟩ : ∃ p, w.heap.size = p := ⟨_, rfl⟩
  obtain ⟨W, hW⟩ : ∃ W, w.alloc (.cells #[.int .i64 x1, .int .i64 x2, .int .i64 x3, .int .i64 x4] 51) = W := ⟨_, rfl⟩
  rw [hW, hp] at P0
  rw [hW] at B0
  rw [hp] at HBL HRL
  have HW := Lib.hid hW
  have HP := Lib.hid hp
  clear hW hp
  by_cases h0 : ck x1 x2 x3 x4 = 0
  · have e0 : put4 L s x1 x2 x3 x4 = stp L (stp L (stp L (stp L s (enc x1)) (enc x2)) (enc (x3 + 1))) (enc x4) := by unfold put4; rw [if_pos h0]
    rw [e0, if_pos h0]
    obtain ⟨a0, a1, b0, b1, c0, c1, d0, d1, -, -, -⟩ := ck_ok h0
    rw [h0] at CK
    have N1 := Lib.hid (fun V (hv : Bel w V) => nAny b L v s base x1 V (H.out.bel hv) a0 (by omega))
    obtain ⟨s1, hs1⟩ : ∃ q, stp L s (enc x1) = q := ⟨_, rfl⟩
    rw [hs1] at N1
    have N2 := Lib.hid (fun V v1 (hv : WS V b L v1 s1.2 s1.1 base) => nAny b L v1 s1 base x2 V hv (by omega) (by omega))
    obtain ⟨s2, hs2⟩ : ∃ q, stp L s1 (enc x2) = q := ⟨_, rfl⟩
    rw [hs2] at N2
    have N3 := Lib.hid (fun V v1 (hv : WS V b L v1 s2.2 s2.1 base) => nAny b L v1 s2 base (x3 + 1) V hv (by omega) (by omega))
    obtain ⟨s3, hs3⟩ : ∃ q, stp L s2 (enc (x3 + 1)) = q := ⟨_, rfl⟩
    rw [hs3] at N3
    have N4 := Lib.hid (fun V v1 (hv : WS V b L v1 s3.2 s3.1 base) => nAny b L v1 s3 base x4 V hv d0 (by omega))
    obtain ⟨s4, hs4⟩ : ∃ q, stp L s3 (enc x4) = q := ⟨_, rfl⟩
    rw [hs4] at N4
    rw [hs1, hs2, hs3, hs4]
    clear hs1 hs2 hs3 hs4 e0 h0
    have w3 : IntKind.i64.wrap (x3 + 1) = x3 + 1 := IntWalk.i64_in _ (by omega)
    clear a0 a1 b0 b1 c0 c1 d0 d1
    go_enter Tryz.func22, Tryz.ntmps22
    go_upto_region 1 with fail
    rw [HW.out, HP.out]
    have c0 := P0.out.cell 0 rfl
    have c1 := P0.out.cell 1 rfl
    have c2 := P0.out.cell 2 rfl
    have c3 := P0.out.cell 3 rfl
    go_wp2_with fail
    refine (CK.out _).mono ?_
    rintro r w1 ⟨rfl, kb⟩
    have K1 := Lib.hid (B0.out.trans kb)
    have P1 := Lib.hid (P0.out.bel kb)
    clear kb c0 c1 c2 c3
    have c0 := P1.out.cell 0 rfl
    go_wp2_with fail
    refine (N1.out _ K1.out).mono ?_
    rintro r w2 ⟨rfl, v1, g1, l1, k1⟩
    have G1 := Lib.hid g1
    have L1 := Lib.hid (show Lies w v v1 from fun g hg => (l1 g hg).imp id (fun h => Nat.le_trans (Below.size K1.out) h))
    have KK1 := Lib.hid ((Kep.of_bel (S := Own2 b v) K1.out).trans k1)
    have P2 := Lib.hid (P1.out.kep k1 (by rintro (h | h); have := HBL.out; omega; have := HRL.out _ h; omega))
    clear g1 l1 k1 c0
    have c1 := P2.out.cell 1 rfl
    go_wp2_with fail
    refine (N2.out _ v1 G1.out).mono ?_
    rintro r w3 ⟨rfl, v2, g1, l1, k1⟩
    have G2 := Lib.hid g1
    have L2 := Lib.hid (L1.out.trans l1 KK1.out.size)
    have KK2 := Lib.hid (kep_lies KK1.out L1.out k1)
    have P3 := Lib.hid (P2.out.kep k1 (by rintro (h | h); have := HBL.out; omega; exact P2.out.not_row (by decide) G1.out.row h))
    clear g1 l1 k1 c1
    have c2 := P3.out.cell 2 rfl
    go_wp2_with fail
    refine (N3.out _ v2 G2.out).mono ?_
    rintro r w4 ⟨rfl, v3, g1, l1, k1⟩
    have G3 := Lib.hid g1
    have L3 := Lib.hid (L2.out.trans l1 KK2.out.size)
    have KK3 := Lib.hid (kep_lies KK2.out L2.out k1)
    have P4 := Lib.hid (P3.out.kep k1 (by rintro (h | h); have := HBL.out; omega; exact P3.out.not_row (by decide) G2.out.row h))
    clear g1 l1 k1 c2
    have c3 := P4.out.cell 3 rfl
    go_wp2_with fail
    refine (N4.out _ v3 G3.out).mono ?_
    rintro r w5 ⟨rfl, v4, g1, l1, k1⟩
    have G4 := Lib.hid g1
    have L4 := Lib.hid (L3.out.trans l1 KK3.out.size)
    have KK4 := Lib.hid (kep_lies KK3.out L3.out k1)
    clear g1 l1 k1 c3
    go_wp2_with fail
    go_ret
    exact ⟨rfl, v4, G4.out, L4.out, KK4.out⟩
  · have e0 : put4 L s x1 x2 x3 x4 = s := by unfold put4; rw [if_neg h0]
    rw [e0, if_neg h0]
    obtain ⟨e, he⟩ : ∃ e, ck x1 x2 x3 x4 = e := ⟨_, rfl⟩
    rw [he] at CK h0 ⊢
    have he1 : (e != 0) = true := by rw [bne_iff_ne]; exact h0
    have RF := Lib.hid (fun V (hv : Bel w V) => refusal b L v s base e V (H.out.bel hv) h1)
    clear he e0 h0 h1
    go_enter Tryz.func22, Tryz.ntmps22
    go_upto_region 1 with fail
    rw [HW.out, HP.out]
    have c0 := P0.out.cell 0 rfl
    have c1 := P0.out.cell 1 rfl
    have c2 := P0.out.cell 2 rfl
    have c3 := P0.out.cell 3 rfl
    go_wp2_with fail
    refine (CK.out _).mono ?_
    rintro r w1 ⟨rfl, kb⟩
    have K1 := Lib.hid (B0.out.trans kb)
    clear kb c0 c1 c2 c3
    go_wp2_with fail
    refine (RF.out _ K1.out).mono ?_
    rintro r w2 ⟨rfl, kb⟩
    have K2 := Lib.hid (K1.out.trans kb)
    clear kb
    go_wp2_with fail
    go_ret
    exact ⟨rfl, v, H.out.bel K2.out, Lies.refl _ _, Kep.of_bel K2.out⟩

set_option maxHeartbeats 1000000 in
theorem put0 (v : Value) (x1 x2 x3 x4 : Int) (w : World) (h : Null w v) :
    Calls Tryz.prog 22 #[v, stV x1 x2 x3 x4] w fun r w' => r = .returned (.int .i64 1) ∧ Bel w w' := by
  have CK := Lib.hid (fun W => check x1 x2 x3 x4 W)
  have P0 := Lib.hid (Blk.new w #[.int .i64 x1, .int .i64 x2, .int .i64 x3, .int .i64 x4] 51)
  have B0 := Lib.hid ((Bel.refl w).alloc (.cells #[.int .i64 x1, .int .i64 x2, .int .i64 x3, .int .i64 x4] 51))
  obtain ⟨W, hW⟩ : ∃ W, w.alloc (.cells #[.int .i64 x1, .int .i64 x2, .int .i64 x3, .int .i64 x4] 51) = W := ⟨_, rfl⟩
  obtain ⟨p, hp⟩ : ∃ p, w.heap.size = p := ⟨_, rfl⟩
  rw [hW, hp] at P0
  rw [hW] at B0
  have HW := Lib.hid hW
  have HP := Lib.hid hp
  have RF := Lib.hid (fun V e (hv : Bel w V) => refusal0 v e V (h.bel hv))
  have NN := Lib.hid (fun V x (hv : Bel w V) => wN0 v x V (h.bel hv))
  obtain ⟨e, he⟩ : ∃ e, ck x1 x2 x3 x4 = e := ⟨_, rfl⟩
  have HC := Lib.hid (fun h0 : e = 0 => ck_ok (he.trans h0))
  rw [he] at CK
  clear hW hp h he
  go_enter Tryz.func22, Tryz.ntmps22
  go_upto_region 1 with fail
  rw [HW.out, HP.out]
  have c0 := P0.out.cell 0 rfl
  have c1 := P0.out.cell 1 rfl
  have c2 := P0.out.cell 2 rfl
  have c3 := P0.out.cell 3 rfl
  go_wp2_with fail
  refine (CK.out _).mono ?_
  rintro r w1 ⟨rfl, kb⟩
  have K1 := Lib.hid (B0.out.trans kb)
  have P1 := P0.out.bel kb
  clear kb c0 c1 c2 c3
  by_cases h0 : e = 0
  · have w3 : IntKind.i64.wrap (x3 + 1) = x3 + 1 := IntWalk.i64_in _ (by have := HC.out h0; omega)
    subst h0
    have c0 := P1.cell 0 rfl
    have c1 := P1.cell 1 rfl
    have c2 := P1.cell 2 rfl
    have c3 := P1.cell 3 rfl
    go_wp2_with fail
    refine (NN.out _ _ K1.out).mono ?_
    rintro r w2 ⟨rfl, rfl⟩
    go_wp2_with fail
    refine (NN.out _ _ K1.out).mono ?_
    rintro r w2 ⟨rfl, rfl⟩
    go_wp2_with fail
    refine (NN.out _ _ K1.out).mono ?_
    rintro r w2 ⟨rfl, rfl⟩
    go_wp2_with fail
    refine (NN.out _ _ K1.out).mono ?_
    rintro r w2 ⟨rfl, rfl⟩
    go_wp2_with fail
    go_ret
    exact ⟨rfl, K1.out⟩
  · have he1 : (e != 0) = true := by rw [bne_iff_ne]; exact h0
    clear h0
    go_wp2_with fail
    refine (RF.out _ _ K1.out).mono ?_
    rintro r w2 ⟨rfl, kb⟩
    have K2 := Lib.hid (K1.out.trans kb)
    clear kb
    go_wp2_with fail
    go_ret
    exact ⟨rfl, K2.out⟩

/-- What Bytes tells. -/
def bytesN (a b c d : Int) : List Int := if ck a b c d = 0 then enc4 a b c d else []
theorem enc4_len (a b c d : Int) : (enc4 a b c d).length ≤ 40 := by
  have h1 := (enc_len a).2
  have h2 := (enc_len b).2
  have h3 := (enc_len (c + 1)).2
  have h4 := (enc_len d).2
  unfold enc4
  simp only [List.length_append]
  omega
theorem stp_ok {L : Int} {out more : List Int} (h : ((out ++ more).length : Int) ≤ L) : stp L (out, 0) more = (out ++ more, 0) := by unfold stp; rw [if_neg (by simp), if_pos h]
theorem put4_ok {a b c d : Int} (h : ck a b c d = 0) : put4 1048576 ([], 0) a b c d = (enc4 a b c d, 0) := by
  have h1 := (enc_len a).2
  have h2 := (enc_len b).2
  have h3 := (enc_len (c + 1)).2
  have h4 := (enc_len d).2
  unfold put4 enc4
  rw [if_pos h, stp_ok (by simp only [List.length_append, List.length_nil]; omega), stp_ok (by simp only [List.length_append, List.length_nil]; omega), stp_ok (by simp only [List.length_append, List.length_nil]; omega), stp_ok (by simp only [List.length_append, List.length_nil]; omega)]
  simp
end Sm
end Go.Proofs.YtcefjigbaglmeaaGreat
end
