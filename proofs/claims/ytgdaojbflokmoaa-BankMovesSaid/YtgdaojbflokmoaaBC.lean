/-
  Texts of this claim, put together: Hash, Hash2, Hash3, Hash4, OneMath, OneItems, ReadN0, ReadY. What each one says, and under which conditions, stands ahead of it.
-/
import Derived.Deep.MidRow
import Derived.Laws.CopyOwn
import Derived.Test.YtgdaojbflokmoaaBB

section
/-
  What Hash of a writer and of a reader answer in this program.
  Conditions: objects that were made; a hash of 32 bytes.
-/
namespace Go.Proofs.Ytgdaojbflokmoaa
open Go.RowKit Go.Shelf
set_option linter.unusedVariables false
namespace Cd

/-- A hash, as the program keeps it: 32 bytes. -/
abbrev hash (hs : List Int) : Value := .agg (hs.map (Value.int .u8)).toArray

theorem sl_box (w : World) (hs : List Int) (t : TypeId) (h : hs.length = 32) : Sl (w.alloc (.cells (hs.map (Value.int .u8)).toArray t)) (some ⟨w.heap.size, 0, none⟩) 32 32 hs := by
  refine ⟨⟨h, fun hn => ⟨w.heap.size, 0, rfl, by simp, fun i hi => ?_⟩⟩, Nat.le_refl _, fun h => by cases h⟩
  rw [Nat.zero_add, World.cell?_alloc_new, List.getElem?_toArray, List.getElem?_map, List.getElem?_eq_getElem (by omega), getD_eq _ _ (by omega)]
  rfl

theorem zero_hash : (List.replicate 32 (0 : Int)).map (Value.int .u8) = List.replicate 32 (Value.int .u8 0) := by simp

theorem range_new {w : World} {C : Array Value} {t : TypeId} : (w.alloc (.cells C t)).rangeAt w.heap.size 0 C.toList := fun j v hv => by
  rw [Nat.zero_add]
  exact (Blk.new w C t).cell j (by simpa using hv)
theorem there_new {w : World} {C : Array Value} {t : TypeId} {n : Nat} (h : n ≤ C.size) : (w.alloc (.cells C t)).there w.heap.size 0 n := fun j hj => by
  rw [Nat.zero_add]
  refine ⟨?_, (Blk.new w C t).frozen j⟩
  rw [(Blk.new w C t).cell j (Array.getElem?_eq_getElem (by omega))]
  rfl
theorem cell_far {w : World} {b : Nat} {vs : List Value} {c o : Nat} {v : Value} (h : w.cell? ⟨c, o, none⟩ = some v) (hne : c ≠ b) : (w.setCells b 0 vs).cell? ⟨c, o, none⟩ = some v := by
  have h1 : w.rangeAt c o [v] := fun j u hu => by
    match j, hu with
    | 0, hu => simp at hu; subst hu; exact h
  have := World.rangeAt_setCells_apart h1 b 0 vs (.inl hne) 0 v rfl
  simpa using this
theorem frozen_far {w : World} {b : Nat} {vs : List Value} {c o : Nat} {v : Value} (h : w.cell? ⟨c, o, none⟩ = some v) (hf : w.frozen? ⟨c, o, none⟩ = false) : (w.setCells b 0 vs).frozen? ⟨c, o, none⟩ = false := by
  have h1 : w.there c o 1 := fun j hj => by
    obtain rfl : j = 0 := by omega
    exact ⟨by rw [Nat.add_zero, h]; rfl, hf⟩
  have := (World.there_setCells h1 b 0 vs 0 (by omega)).2
  simpa using this
theorem kep_setCells (b : Nat) : ∀ (vs : List Value) (o : Nat) (w : World), Kep (fun i => i = b) w (w.setCells b o vs) := by
  intro vs
  induction vs with
  | nil => intro o w; exact Kep.refl _ _
  | cons v vs ih => intro o w; exact (Kep.set_self (Kep.refl _ w) o v).trans (ih (o + 1) _)

theorem range_kep {S : Nat → Prop} {w w' : World} {b o : Nat} {cs : List Value} (h : w.rangeAt b o cs) (hk : Kep S w w') (hs : ¬ S b) : w'.rangeAt b o cs := fun j v hv => hk.cell hs (h j v hv)
theorem range_set {w : World} {b o : Nat} {cs : List Value} (h : w.rangeAt b o cs) {c : Nat} (hne : b ≠ c) (i : Nat) (u : Value) : (w.setCell ⟨c, i, none⟩ u).rangeAt b o cs := range_kep h (Kep.set_self (Kep.refl _ w) i u) hne
abbrev Z32 : Array Value := #[.int .u8 0, .int .u8 0, .int .u8 0, .int .u8 0, .int .u8 0, .int .u8 0, .int .u8 0, .int .u8 0, .int .u8 0, .int .u8 0, .int .u8 0, .int .u8 0, .int .u8 0, .int .u8 0, .int .u8 0, .int .u8 0, .int .u8 0, .int .u8 0, .int .u8 0, .int .u8 0, .int .u8 0, .int .u8 0, .int .u8 0, .int .u8 0, .int .u8 0, .int .u8 0, .int .u8 0, .int .u8 0, .int .u8 0, .int .u8 0, .int .u8 0, .int .u8 0]
theorem z32 : Z32 = ((List.replicate 32 (0 : Int)).map (Value.int .u8)).toArray := by rfl

theorem results_cic {fn : Func} {p q s : Tmp} {tp ts : TypeId} (h : fn.results = #[.cell p tp, .tmp q, .cell s ts]) (tmps : Array Value) (w : World) (a c : Addr) (X Y U : Value)
    (hp : tmps.getD p undef = .pointer (some a)) (hs : tmps.getD s undef = .pointer (some c)) (hq : tmps.getD q undef = U) (hX : (loadVar tp a).run Try.prog w = .ok X w) (hY : (loadVar ts c).run Try.prog w = .ok Y w) :
    (results fn tmps).run Try.prog w = .ok (.tuple #[X, U, Y]) w := by
  have hp' : tmps[p]?.getD undef = .pointer (some a) := by simpa using hp
  have hs' : tmps[s]?.getD undef = .pointer (some c) := by simpa using hs
  have hq' : tmps[q]?.getD undef = U := by simpa using hq
  simp [results, h, hp', hs', hq', asAddr, hX, hY]
end Cd
end Go.Proofs.Ytgdaojbflokmoaa
end

section
/-
  What the inner function of a reader's Hash answers in this program: the hash that stands at a place.
  Conditions: at most 10^6 bytes; 32 of them stand at the place.
-/
namespace Go.Proofs.Ytgdaojbflokmoaa
open Go.RowKit Go.Shelf
set_option linter.unusedVariables false
namespace Cd

end Cd
end Go.Proofs.Ytgdaojbflokmoaa
end

section
/-
  What item of a reader answers in this program where the item is a hash.
  Conditions: the reader is one that NewReader made of at most 10^6 bytes.
-/
namespace Go.Proofs.Ytgdaojbflokmoaa
open Go.RowKit Go.Shelf
set_option linter.unusedVariables false
namespace Cd

theorem z32_size : Z32.size = 32 := rfl

/-- What stands of a block that is to hold a hash, and of one that is to hold a fault. -/
theorem there_bel {w w' : World} {g : Nat} (h : w.there g 0 32) (hb : Bel w w') : w'.there g 0 32 := fun j hj => by
  obtain ⟨h1, h2⟩ := h j hj
  obtain ⟨v, hv⟩ := Option.isSome_iff_exists.1 h1
  have hl : g < w.heap.size := World.block_lt_of_cell? w _ hv
  refine ⟨?_, ?_⟩
  · rw [Below.cell (p := ⟨g, 0 + j, none⟩) hb hl]; exact h1
  · rw [Below.frozen (p := ⟨g, 0 + j, none⟩) hb hl]; exact h2
theorem r_self {w : World} {g : Nat} {Y : List Value} (h : w.there g 0 32) (hl : Y.length = 32) : (w.setCells g 0 Y).rangeAt g 0 Y := World.rangeAt_setCells_same w g 0 Y (by rw [hl]; exact h)
theorem cell_apart (w : World) (g : Nat) (vs : List Value) (c o : Nat) (h : c ≠ g) : (w.setCells g 0 vs).cell? ⟨c, o, none⟩ = w.cell? ⟨c, o, none⟩ :=
  World.cell?_setCells_out g vs 0 w ⟨c, o, none⟩ (fun hb _ => absurd hb h)
theorem frozen_apart (w : World) (g : Nat) (vs : List Value) (a : Addr) : (w.setCells g 0 vs).frozen? a = w.frozen? a := by rw [World.frozen?_setCells]
theorem blk_apart {w : World} {g c : Nat} {vs : List Value} {C : Array Value} {t : TypeId} (h : Blk w c C t) (hne : c ≠ g) : Blk (w.setCells g 0 vs) c C t := h.kep (kep_setCells g vs 0 w) hne
theorem bel_setCells {w w' : World} (h : Bel w w') {g : Nat} (hg : w.heap.size ≤ g) (vs : List Value) : Bel w (w'.setCells g 0 vs) := Kep.bel h (kep_setCells g vs 0 w') (fun i hi => by rw [hi]; exact hg)
theorem size_setCells (g : Nat) : ∀ (vs : List Value) (o : Nat) (w : World), (w.setCells g o vs).heap.size = w.heap.size
  | [], _, _ => rfl
  | v :: r, o, w => by
    rw [World.setCells, size_setCells g r (o + 1)]
    simp

abbrev Past (W w1 : World) (b : Nat) : Prop := Hid (Bel W w1) ∧ w1.heap.size ≠ b ∧ b ≠ w1.heap.size ∧ w1.heap.size + 1 ≠ b ∧ b ≠ w1.heap.size + 1
theorem past {W w1 : World} {b : Nat} (h : Bel W w1) (hb : b < W.heap.size) : Past W w1 b := by
  have := Below.size h
  exact ⟨h, by omega, by omega, by omega, by omega⟩
theorem drew_there {w : World} {g : Nat} (h : w.there g 0 32) : w.drew.there g 0 32 := (World.there_drew w g 0 32).2 h
theorem blk_drew {w : World} {g : Nat} {C : Array Value} {t : TypeId} (h : Blk w g C t) : Blk w.drew g C t := h.bel ((Bel.refl w).drew)
/-- The five worlds in which the item may be asked for. -/
theorem at0 (W : World) (b : Nat) (hb : b < W.heap.size) : ∀ w1, Bel W.drew w1 → Past W w1 b := fun w1 h => past (((Bel.refl W).drew).trans h) hb
theorem results_c1 {fn : Func} {p : Tmp} {tp : TypeId} (h : fn.results = #[.cell p tp]) (tmps : Array Value) (w : World) (a : Addr) (X : Value)
    (hp : tmps.getD p undef = .pointer (some a)) (hX : (loadVar tp a).run Try.prog w = .ok X w) : (results fn tmps).run Try.prog w = .ok X w := by
  have hp' : tmps[p]?.getD undef = .pointer (some a) := by simpa using hp
  simp [results, h, hp', asAddr, hX]
theorem kep_new {S : Nat → Prop} {w w2 w3 : World} (h : Kep S w w2) (h3 : Kep (fun i => i = w.heap.size) w2 w3) : Kep S w w3 :=
  ⟨h3.os.trans h.os, h3.tape.trans h.tape, h3.output.trans h.output, Nat.le_trans h.size h3.size, fun i hi hs => (h3.block i (Nat.lt_of_lt_of_le hi h.size) (Nat.ne_of_lt hi)).trans (h.block i hi hs)⟩
end Cd
end Go.Proofs.Ytgdaojbflokmoaa
end

section
/-
  What Hash of a reader answers in this program; distraintkit.Pick; whether a reader has a fault.
  Conditions: the reader is one that NewReader made of at most 10^6 bytes.
-/
namespace Go.Proofs.Ytgdaojbflokmoaa
open Go.RowKit Go.Shelf
set_option linter.unusedVariables false
namespace Cd

def RH (zs : List Int) (k : Nat) (f : Option (Int × Int)) (hs : List Int) (k' : Nat) (f' : Option (Int × Int)) : Prop :=
  (∃ p, f = some p ∧ hs = List.replicate 32 0 ∧ k' = k ∧ f' = f) ∨ (f = none ∧ ((k + 32 ≤ zs.length ∧ hs = (zs.drop k).take 32 ∧ k' = k + 32 ∧ f' = none) ∨ (zs.length < k + 32 ∧ hs = List.replicate 32 0 ∧ k' = k ∧ f' = some (6, (k : Int)))))

theorem blk_there {w : World} {b : Nat} {C : Array Value} {t : TypeId} (h : Blk w b C t) (hn : 32 ≤ C.size) : w.there b 0 32 := fun j hj => by
  rw [Nat.zero_add]
  refine ⟨?_, h.frozen j⟩
  rw [h.cell j (Array.getElem?_eq_getElem (by omega))]
  rfl

end Cd
end Go.Proofs.Ytgdaojbflokmoaa
end

section
/-
  What is read of bytes has no other bytes: numbers, hashes, byte strings. Plain facts; no program.
  Conditions: bytes; a place among them.
-/
namespace Go.Proofs.Ytgdaojbflokmoaa
open Go.RowKit Go.Shelf
set_option linter.unusedVariables false
namespace Cd

theorem val_front (zs : List Int) (k : Nat) : ∀ m, val zs k (m + 1) = zs.getD k 0 % 128 + 128 * val zs (k + 1) m := by
  intro m
  induction m with
  | zero => simp [val]
  | succ m ih =>
    show val zs k (m + 1) + zs.getD (k + (m + 1)) 0 % 128 * 128 ^ (m + 1) = zs.getD k 0 % 128 + 128 * (val zs (k + 1) m + zs.getD (k + 1 + m) 0 % 128 * 128 ^ m)
    rw [ih, pow1, show k + 1 + m = k + (m + 1) by omega]
    generalize zs.getD (k + (m + 1)) 0 % 128 = t
    generalize (128 : Int) ^ m = p
    generalize val zs (k + 1) m = v
    have : t * (p * 128) = 128 * (t * p) := by rw [← Int.mul_assoc, Int.mul_comm]
    rw [this]
    omega
theorem val_pos (zs : List Int) (k j : Nat) (h0 : 0 < zs.getD (k + j) 0) (h1 : zs.getD (k + j) 0 < 128) : 1 ≤ val zs k (j + 1) := by
  show 1 ≤ val zs k j + zs.getD (k + j) 0 % 128 * 128 ^ j
  have h2 := (val_lt zs k j).1
  have h3 := pow0 j
  have h4 : (1 : Int) ≤ zs.getD (k + j) 0 % 128 := by omega
  have h5 : 1 * (128 : Int) ^ j ≤ zs.getD (k + j) 0 % 128 * 128 ^ j := Int.mul_le_mul_of_nonneg_right h4 (by omega)
  omega
theorem val_max (zs : List Int) (k j : Nat) (hj : j < 10) (h9 : j = 9 → zs.getD (k + j) 0 = 1) : val zs k (j + 1) ≤ 18446744073709551615 := by
  have hp : ∀ m : Fin 10, (128 : Int) ^ m.1 ≤ 9223372036854775808 := by decide
  rcases Nat.lt_or_ge j 9 with h | h
  · have h1 := (val_lt zs k (j + 1)).2
    have h2 := hp ⟨j + 1, by omega⟩
    simp only at h2
    omega
  · obtain rfl : j = 9 := by omega
    show val zs k 9 + zs.getD (k + 9) 0 % 128 * 128 ^ 9 ≤ _
    rw [h9 rfl]
    have h1 := (val_lt zs k 9).2
    have e9 : (128 : Int) ^ 9 = 9223372036854775808 := by decide
    rw [e9] at *
    omega
theorem drop_cons (zs : List Int) (k m : Nat) (hk : k < zs.length) : (zs.drop k).take (m + 1) = zs.getD k 0 :: (zs.drop (k + 1)).take m := by
  rw [List.drop_eq_getElem_cons hk, List.take_succ_cons, getD_eq _ _ hk]
/-- A number that was read has just the bytes that it was read of. -/
theorem enc_val (zs : List Int) (hb : Bytes zs) : ∀ (j f k : Nat), j ≤ f → k + j < zs.length → (∀ i, i < j → 128 ≤ zs.getD (k + i) 0) → zs.getD (k + j) 0 < 128 → (0 < j → 0 < zs.getD (k + j) 0) → encN f (val zs k (j + 1)) = (zs.drop k).take (j + 1) := by
  intro j
  induction j with
  | zero =>
    intro f k _ hk _ hl _
    have h0 := hb k
    have hl : zs.getD k 0 < 128 := hl
    have e : val zs k (0 + 1) = zs.getD k 0 := by
      rw [val_front]
      show zs.getD k 0 % 128 + 128 * 0 = _
      omega
    rw [e, encN_small _ hl, drop_cons zs k 0 (by omega)]
    simp
  | succ j ih =>
    intro f k hf hk hg hl hp
    obtain ⟨f, rfl⟩ : ∃ g, f = g + 1 := ⟨f - 1, by omega⟩
    have e : k + 1 + j = k + (j + 1) := by omega
    have hv := val_pos zs (k + 1) j (by rw [e]; exact hp (by omega)) (by rw [e]; exact hl)
    have h0 := hb k
    have h1 := hg 0 (by omega)
    rw [Nat.add_zero] at h1
    have hi := ih f (k + 1) (by omega) (by omega) (fun i hi => by rw [show k + 1 + i = k + (i + 1) by omega]; exact hg (i + 1) (by omega)) (by rw [e]; exact hl) (fun _ => by rw [e]; exact hp (by omega))
    rw [val_front, drop_cons zs k (j + 1) (by omega), encN_great f (by omega), ← hi]
    generalize val zs (k + 1) (j + 1) = v at *
    generalize zs.getD k 0 = z at *
    rw [show (z % 128 + 128 * v) % 128 + 128 = z by omega, show (z % 128 + 128 * v) / 128 = v by omega]

/-- How reading a thing comes out: its bytes stand there, or a fault at the place. -/
def Out (zs : List Int) (k : Nat) (more : List Int) (k' : Nat) (f' : Option (Int × Int)) : Prop :=
  (f' = none ∧ k' ≤ zs.length ∧ zs.take k ++ more = zs.take k') ∨ (∃ e, e ≠ 0 ∧ f' = some (e, (k : Int)) ∧ k' = k)
theorem take_more (zs : List Int) (k m : Nat) : zs.take k ++ (zs.drop k).take m = zs.take (k + m) := List.take_add.symm

theorem ru_of (zs : List Int) (hb : Bytes zs) (k : Nat) (hk : k ≤ zs.length) : ∃ x k' f', RU zs k none x k' f' ∧ 0 ≤ x ∧ x ≤ 18446744073709551615 ∧ Out zs k (enc x) k' f' := by
  obtain ⟨n, tl, e, bad, hw⟩ := way_of zs hb k
  rcases id hw with ⟨h, _⟩ | ⟨k0, hk0, _, rfl, rfl, rfl, he⟩ | ⟨k0, j, hk0, hj, hkj, hg, hl, hp, h9, rfl, rfl, rfl, rfl⟩
  · omega
  · obtain rfl : k0 = k := by omega
    have h0 : e ≠ 0 := by rcases he with ⟨rfl, _⟩ | ⟨rfl, _⟩ | ⟨rfl, _⟩ <;> decide
    exact ⟨0, k0, some (e, (k0 : Int)), .inr ⟨rfl, 0, e, k0, hw, .inr ⟨h0, rfl, rfl⟩, hk, fun _ => rfl⟩, by decide, by decide, .inr ⟨e, h0, rfl, rfl⟩⟩
  · obtain rfl : k0 = k := by omega
    refine ⟨_, k0 + j + 1, none, .inr ⟨rfl, _, 0, 0, hw, .inl ⟨rfl, by omega, rfl⟩, by omega, fun h => absurd rfl h⟩, (val_lt zs k0 (j + 1)).1, val_max zs k0 j hj h9, .inl ⟨rfl, by omega, ?_⟩⟩
    show zs.take k0 ++ encN 9 (val zs k0 (j + 1)) = _
    rw [enc_val zs hb j 9 k0 (by omega) hkj hg hl hp, take_more, Nat.add_assoc]

theorem rh_of (zs : List Int) (k : Nat) (hk : k ≤ zs.length) : ∃ hs k' f', RH zs k none hs k' f' ∧ hs.length = 32 ∧ Out zs k hs k' f' := by
  rcases Nat.lt_or_ge zs.length (k + 32) with h | h
  · exact ⟨_, k, _, .inr ⟨rfl, .inr ⟨h, rfl, rfl, rfl⟩⟩, List.length_replicate, .inr ⟨6, by decide, rfl, rfl⟩⟩
  · exact ⟨_, _, _, .inr ⟨rfl, .inl ⟨h, rfl, rfl, rfl⟩⟩, by simp; omega, .inl ⟨rfl, h, take_more zs k 32⟩⟩

theorem rb_of (zs : List Int) (hb : Bytes zs) (k : Nat) (hk : k ≤ zs.length) : ∃ ys k' f', RB zs k none 400 ys k' f' ∧ ys.length ≤ zs.length ∧ Out zs k (enc (ys.length : Int) ++ ys) k' f' := by
  obtain ⟨n, tl, e, bad, hw⟩ := way_of zs hb k
  rcases id hw with ⟨h, _⟩ | ⟨k0, hk0, _, rfl, rfl, rfl, he⟩ | ⟨k0, j, hk0, hj, hkj, hg, hl, hp, h9, rfl, rfl, rfl, rfl⟩
  · omega
  · obtain rfl : k0 = k := by omega
    have h0 : e ≠ 0 := by rcases he with ⟨rfl, _⟩ | ⟨rfl, _⟩ | ⟨rfl, _⟩ <;> decide
    exact ⟨[], k0, some (e, (k0 : Int)), .inr ⟨rfl, 0, e, k0, ⟨0, 0, e, k0, hw, by decide, by decide, .inl ⟨h0, rfl, rfl, rfl, rfl⟩⟩, .inr ⟨h0, rfl, rfl⟩, hk, fun _ => rfl⟩, by simp, .inr ⟨e, h0, rfl, rfl⟩⟩
  · obtain rfl : k0 = k := by omega
    have hv0 := (val_lt zs k0 (j + 1)).1
    have hv1 := val_max zs k0 j hj h9
    have hen := enc_val zs hb j 9 k0 (by omega) hkj hg hl hp
    rcases Int.lt_or_le 400 (val zs k0 (j + 1)) with hgt | hle
    · exact ⟨[], k0, some (4, (k0 : Int)), .inr ⟨rfl, 0, 4, k0, ⟨_, _, 0, 0, hw, hv0, hv1, .inr (.inl ⟨rfl, .inr hgt, rfl, rfl, rfl, rfl⟩)⟩, .inr ⟨by decide, rfl, rfl⟩, hk, fun _ => rfl⟩, by simp, .inr ⟨4, by decide, rfl, rfl⟩⟩
    · obtain ⟨m, hm⟩ := Int.eq_ofNat_of_zero_le hv0
      rcases Nat.lt_or_ge zs.length (k0 + j + 1 + m) with hlt | hge
      · exact ⟨[], k0, some (6, (k0 : Int)), .inr ⟨rfl, 0, 6, k0, ⟨_, _, 0, 0, hw, hv0, hv1, .inr (.inr (.inl ⟨k0 + j + 1, by omega, by omega, rfl, by decide, hle, by omega, rfl, rfl, rfl, rfl⟩))⟩, .inr ⟨by decide, rfl, rfl⟩, hk, fun _ => rfl⟩, by simp, .inr ⟨6, by decide, rfl, rfl⟩⟩
      · have hl32 : ((zs.drop (k0 + j + 1)).take m).length = m := by simp; omega
        refine ⟨(zs.drop (k0 + j + 1)).take m, k0 + j + 1 + m, none, .inr ⟨rfl, ((k0 + j + 1 + m : Nat) : Int), 0, 0, ⟨_, _, 0, 0, hw, hv0, hv1, .inr (.inr (.inr ⟨k0 + j + 1, m, by omega, hm, hge, rfl, by decide, hle, rfl, rfl, rfl, rfl⟩))⟩, .inl ⟨rfl, rfl, rfl⟩, hge, fun h => absurd rfl h⟩, by rw [hl32]; omega, .inl ⟨rfl, hge, ?_⟩⟩
        rw [hl32, ← take_more zs (k0 + j + 1) m, ← List.append_assoc]
        congr 1
        show zs.take k0 ++ encN 9 (m : Int) = _
        rw [← hm, hen, take_more, Nat.add_assoc]
end Cd
end Go.Proofs.Ytgdaojbflokmoaa
end

section
/-
  What U, Hash and Blob of a reader without a fault answer in this program: the reader's bytes lie where they lay.
  Conditions: the reader is one that NewReader made of at most 10^6 bytes.
-/
namespace Go.Proofs.Ytgdaojbflokmoaa
open Go.RowKit Go.Shelf
set_option linter.unusedVariables false
namespace Cd

end Cd
end Go.Proofs.Ytgdaojbflokmoaa
end

section
/-
  What N of the program's reader without a fault answers: the reader's bytes lie where they lay.
  Conditions: readers that were made of at most 10^6 bytes.
-/
namespace Go.Proofs.Ytgdaojbflokmoaa
open Go.RowKit Go.Shelf
set_option linter.unusedVariables false
namespace Cd

end Cd
end Go.Proofs.Ytgdaojbflokmoaa
end

section
/-
  What a reader answers while another object, at block d, stands beside it: its own memory stays apart from that block.
  Conditions: readers that were made of at most 10^6 bytes.
-/
namespace Go.Proofs.Ytgdaojbflokmoaa
open Go.RowKit Go.Shelf
set_option linter.unusedVariables false
namespace Cd

end Cd
end Go.Proofs.Ytgdaojbflokmoaa
end
