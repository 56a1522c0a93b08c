/-
  A journal in memory: its block, its cells, its levels' row, the maps of touched cells, the chains of changes; how it stands while other blocks turn. No condition.
-/
import Derived.Test.YtogphhhlbofgkaaJn0
namespace Go.Proofs.Ytogphhhlbofgkaa
open Go.RowKit Go.Shelf Go.Maps
set_option linter.unusedVariables false
namespace Jn
open Kk Pm Bk

theorem kI : Keyed Try.prog 3 := int_keyed Try.underlying3
theorem key_int {x : Int} (h0 : -9223372036854775808 ≤ x) (h1 : x ≤ 9223372036854775807) : keyOf Try.prog 3 (.int .i64 x) = some (.int .i64 x) :=
  keyOf_int_mk Try.underlying3 (WalkArith.wf_i64 ⟨h0, h1⟩)

/-! ### which cells were touched -/
/-- The map in block b has just the numbers below n that t names. -/
def TMap (w : World) (b n : Nat) (t : Nat → Bool) : Prop :=
  ∃ D : DataW Unit, w.ownsMap Try.prog 3 unitElem b n D ∧ (∀ i : Nat, Maps.has D (.int .i64 i) = t i) ∧ (∀ x : Int, Maps.has D (.int .i64 x) = true → 0 ≤ x) ∧ (∀ i, t i = true → i < n)
/-- The numbers below n that t names. -/
def named (n : Nat) (t : Nat → Bool) : List Nat := (List.range n).filter t
def namedZ (n : Nat) (t : Nat → Bool) : List Int := (named n t).map (fun i : Nat => (i : Int))
theorem named_len (n : Nat) (t : Nat → Bool) : (named n t).length ≤ n := Nat.le_trans (List.length_filter_le _ _) (by simp)
theorem namedZ_mem {n : Nat} {t : Nat → Bool} {x : Int} : x ∈ namedZ n t ↔ ∃ i : Nat, x = i ∧ i < n ∧ t i = true := by
  unfold namedZ named
  rw [List.mem_map]
  constructor
  · rintro ⟨i, hi, rfl⟩; rw [List.mem_filter, List.mem_range] at hi; exact ⟨i, rfl, hi.1, hi.2⟩
  · rintro ⟨i, rfl, h1, h2⟩; exact ⟨i, by rw [List.mem_filter, List.mem_range]; exact ⟨h1, h2⟩, rfl⟩
theorem namedZ_nodup (n : Nat) (t : Nat → Bool) : (namedZ n t).Nodup := by
  unfold namedZ named
  refine List.pairwise_map.2 ((List.Pairwise.filter _ List.nodup_range).imp ?_)
  intro a b h e
  exact h (by omega)
theorem keys_perm {w : World} {b m n : Nat} {t : Nat → Bool} {D : DataW Unit} (h : w.ownsMap Try.prog 3 unitElem b m D) (h1 : ∀ i : Nat, Maps.has D (.int .i64 i) = t i) (h2 : ∀ x : Int, Maps.has D (.int .i64 x) = true → 0 ≤ x) (h3 : ∀ i, t i = true → i < n) :
    (namedZ n t).Perm (intKeys D) := by
  refine CollectedI.perm (left := fun _ => false) ⟨namedZ_nodup n t, fun x => ?_⟩ h kI Try.underlying3 (fun _ => rfl)
  rw [namedZ_mem]
  constructor
  · rintro ⟨i, rfl, _, hi⟩; exact ⟨(h1 i).trans hi, rfl⟩
  · rintro ⟨hh, _⟩
    obtain ⟨i, rfl⟩ := Int.eq_ofNat_of_zero_le (h2 x hh)
    have := (h1 i).symm.trans hh
    exact ⟨i, rfl, h3 i this, this⟩
theorem tight {w : World} {b m n : Nat} {t : Nat → Bool} {D : DataW Unit} (h : w.ownsMap Try.prog 3 unitElem b m D) (h1 : ∀ i : Nat, Maps.has D (.int .i64 i) = t i) (h2 : ∀ x : Int, Maps.has D (.int .i64 x) = true → 0 ≤ x) (h3 : ∀ i, t i = true → i < n) :
    TMap w b n t := by
  refine ⟨D, ?_, h1, h2, h3⟩
  have hp := (keys_perm h h1 h2 h3).length_eq
  have hl : (namedZ n t).length ≤ n := by simpa [namedZ] using named_len n t
  obtain ⟨es, clock, hb, F, hs, rfl⟩ := h
  refine ⟨es, clock, hb, F, ?_, rfl⟩
  simp only [intKeys, List.length_map, length_read] at hp
  omega
theorem TMap.keep {S : Nat → Prop} {w w' : World} {b n : Nat} {t : Nat → Bool} (h : TMap w b n t) (hk : Kep S w w') (hs : ¬ S b) : TMap w' b n t := by
  obtain ⟨D, ⟨es, clock, hb, r⟩, h1⟩ := h
  exact ⟨D, ⟨es, clock, (hk.block b (Array.getElem?_eq_some_iff.1 hb).1 hs).trans hb, r⟩, h1⟩
theorem TMap.lt {w : World} {b n : Nat} {t : Nat → Bool} (h : TMap w b n t) : b < w.heap.size := by obtain ⟨D, h, _⟩ := h; exact h.lt
theorem TMap.isMap {w : World} {b n : Nat} {t : Nat → Bool} (h : TMap w b n t) : ∃ es c, w.heap[b]? = some (.map es c) := by obtain ⟨D, ⟨es, c, hb, _⟩, _⟩ := h; exact ⟨es, c, hb⟩
theorem TMap.congr {w : World} {b n : Nat} {t t' : Nat → Bool} (h : TMap w b n t) (e : ∀ i, t' i = t i) : TMap w b n t' := by
  have : t' = t := funext e
  rw [this]; exact h
theorem tmap_new (w : World) (n : Nat) : TMap (w.alloc (.map #[] 0)) w.heap.size n (fun _ => false) := by
  refine ⟨.map [], (World.ownsMap_made w _ _ _).mono (Nat.zero_le _), fun i => rfl, fun x h => ?_, fun i h => ?_⟩
  · simp [Maps.has] at h
  · cases h

/-! ### changes -/
def ord : Option Addr → Nat
  | none => 0
  | some a => a.block + 1
/-- A func that gives a cell back what it held. -/
def Und (I : Nat → Prop) (w : World) (f : Value) (c : Ch) : Prop :=
  ∃ x y, f = .func (.func 70) #[] #[.pointer (some ⟨x, 0, none⟩), .pointer (some ⟨y, 0, none⟩)] ∧ I x ∧ I y ∧ Blk w x #[.int .u64 c.2] 31 ∧ Blk w y #[.int .i64 c.1] 3
/-- A change. -/
def Cb (I : Nat → Prop) (w : World) (b : Nat) (c : Ch) (q : Option Addr) : Prop :=
  ∃ f, I b ∧ Blk w b #[.int .i64 c.1, f, .pointer q] 80 ∧ Und I w f c
/-- Changes, the newest one first, down to a mark. -/
def Chain (I : Nat → Prop) (w : World) : Option Addr → List Ch → Option Addr → Prop
  | p, [], m => p = m
  | p, c :: r, m => ∃ b q, p = some ⟨b, 0, none⟩ ∧ Cb I w b c q ∧ ord q ≤ b ∧ Chain I w q r m
theorem Und.keep {I S : Nat → Prop} {w w' : World} {f : Value} {c : Ch} (h : Und I w f c) (hk : Kep S w w') (hs : ∀ b, I b → ¬ S b) : Und I w' f c := by
  obtain ⟨x, y, rfl, hx, hy, b1, b2⟩ := h
  exact ⟨x, y, rfl, hx, hy, b1.kep hk (hs x hx), b2.kep hk (hs y hy)⟩
theorem Und.mono {I J : Nat → Prop} {w : World} {f : Value} {c : Ch} (h : Und I w f c) (hs : ∀ b, I b → J b) : Und J w f c := by
  obtain ⟨x, y, rfl, hx, hy, b1, b2⟩ := h
  exact ⟨x, y, rfl, hs x hx, hs y hy, b1, b2⟩
theorem Cb.keep {I S : Nat → Prop} {w w' : World} {b : Nat} {c : Ch} {q : Option Addr} (h : Cb I w b c q) (hk : Kep S w w') (hs : ∀ b, I b → ¬ S b) : Cb I w' b c q := by
  obtain ⟨f, hb, b1, hu⟩ := h
  exact ⟨f, hb, b1.kep hk (hs b hb), hu.keep hk hs⟩
theorem Cb.mono {I J : Nat → Prop} {w : World} {b : Nat} {c : Ch} {q : Option Addr} (h : Cb I w b c q) (hs : ∀ b, I b → J b) : Cb J w b c q := by
  obtain ⟨f, hb, b1, hu⟩ := h
  exact ⟨f, hs b hb, b1, hu.mono hs⟩
theorem Chain.keep {I S : Nat → Prop} {w w' : World} (hk : Kep S w w') (hs : ∀ b, I b → ¬ S b) : ∀ (l : List Ch) {p m : Option Addr}, Chain I w p l m → Chain I w' p l m := by
  intro l
  induction l with
  | nil => intro p m h; exact h
  | cons c r ih => rintro p m ⟨b, q, rfl, hc, ho, h⟩; exact ⟨b, q, rfl, hc.keep hk hs, ho, ih h⟩
theorem Chain.mono {I J : Nat → Prop} {w : World} (hs : ∀ b, I b → J b) : ∀ (l : List Ch) {p m : Option Addr}, Chain I w p l m → Chain J w p l m := by
  intro l
  induction l with
  | nil => intro p m h; exact h
  | cons c r ih => rintro p m ⟨b, q, rfl, hc, ho, h⟩; exact ⟨b, q, rfl, hc.mono hs, ho, ih h⟩
theorem Chain.ord {I : Nat → Prop} {w : World} : ∀ (l : List Ch) {p m : Option Addr}, Chain I w p l m → Jn.ord m ≤ Jn.ord p := by
  intro l
  induction l with
  | nil => intro p m h; cases h; exact Nat.le_refl _
  | cons c r ih => rintro p m ⟨b, q, rfl, hc, ho, h⟩; have := ih h; show _ ≤ b + 1; omega
theorem Chain.lt {I : Nat → Prop} {w : World} {c : Ch} {r : List Ch} {p m : Option Addr} (h : Chain I w p (c :: r) m) : Jn.ord m < Jn.ord p := by
  obtain ⟨b, q, rfl, hc, ho, h⟩ := h
  have := Chain.ord r h
  show _ < b + 1
  omega

/-! ### levels -/
/-- The cells of the levels' row; the topmost level is the list's first. -/
def lc : List (Option Addr × Nat) → List Value
  | [] => []
  | r :: rs => lc rs ++ [.pointer r.1, .map (some r.2)]
theorem lc_len (rs : List (Option Addr × Nat)) : (lc rs).length = rs.length * 2 := by
  induction rs with
  | nil => rfl
  | cons r rs ih => simp only [lc, List.length_append, ih, List.length_cons, List.length_nil]; omega
theorem lc_one (rs : List (Option Addr × Nat)) : ∀ u ∈ lc rs, u.oneCell' = true := by
  induction rs with
  | nil => intro u h; cases h
  | cons r rs ih =>
    intro u h
    rcases List.mem_append.1 h with h | h
    · exact ih u h
    · rcases List.mem_cons.1 h with rfl | h
      · rfl
      · rcases List.mem_cons.1 h with rfl | h
        · rfl
        · cases h
/-- A slice of levels, whose row may go on behind its capacity. -/
def LRow (w : World) (v : Value) (rs : List (Option Addr × Nat)) : Prop :=
  (v = .slice none 0 0 ∧ rs = []) ∨ ∃ g cap cur, v = .slice (some ⟨g, 0, none⟩) rs.length cap ∧ w.heap[g]? = some (.cells cur 96 (0, 0)) ∧ rs.length ≤ cap ∧ cap ≤ maxLen ∧ cap * 2 ≤ cur.size ∧ cur.toList.take (rs.length * 2) = lc rs
theorem LRow.keep {S : Nat → Prop} {w w' : World} {v : Value} {rs : List (Option Addr × Nat)} (h : LRow w v rs) (hk : Kep S w w') (hs : ∀ g, v.ownBlock = some g → ¬ S g) : LRow w' v rs := by
  rcases h with h | ⟨g, cap, cur, rfl, hb, r⟩
  · exact .inl h
  · exact .inr ⟨g, cap, cur, rfl, (hk.block g (Array.getElem?_eq_some_iff.1 hb).1 (hs g rfl)).trans hb, r⟩
theorem LRow.blk {w : World} {v : Value} {rs : List (Option Addr × Nat)} (h : LRow w v rs) {g : Nat} (hg : v.ownBlock = some g) : ∃ cur, Blk w g cur 96 := by
  rcases h with ⟨rfl, _⟩ | ⟨g', cap, cur, rfl, hb, r⟩
  · cases hg
  · obtain rfl : g' = g := by simpa [Value.ownBlock] using hg
    exact ⟨cur, hb⟩
/-- The slice, where there are levels. -/
theorem LRow.some_ {w : World} {v : Value} {r : Option Addr × Nat} {rs : List (Option Addr × Nat)} (h : LRow w v (r :: rs)) : ∃ g cap cur, v = .slice (some ⟨g, 0, none⟩) (rs.length + 1) cap ∧ Blk w g cur 96 ∧ rs.length + 1 ≤ cap ∧ cap ≤ maxLen ∧ cap * 2 ≤ cur.size ∧ cur.toList.take ((rs.length + 1) * 2) = lc rs ++ [.pointer r.1, .map (some r.2)] := by
  rcases h with ⟨_, h⟩ | ⟨g, cap, cur, rfl, hb, h1, h2, h3, h4⟩
  · cases h
  · exact ⟨g, cap, cur, rfl, hb, h1, h2, h3, h4⟩
/-- The chains and the maps of the levels. -/
def RStack (I : Nat → Prop) (w : World) (n : Nat) : Option Addr → List (List Ch) → List (Option Addr × Nat) → Prop
  | p, [], [] => p = none
  | p, ch :: ls, r :: rs => Chain I w p ch r.1 ∧ TMap w r.2 n (has1 ch) ∧ Chs n ch ∧ RStack I w n r.1 ls rs
  | _, _, _ => False
theorem RStack.len {I : Nat → Prop} {w : World} {n : Nat} : ∀ (ls : List (List Ch)) {p : Option Addr} {rs : List (Option Addr × Nat)}, RStack I w n p ls rs → rs.length = ls.length := by
  intro ls
  induction ls with
  | nil => intro p rs h; cases rs with
    | nil => rfl
    | cons r rs => exact h.elim
  | cons c ls ih => intro p rs h; cases rs with
    | nil => exact h.elim
    | cons r rs => simp [ih h.2.2.2]
theorem RStack.keep {I S : Nat → Prop} {w w' : World} {n : Nat} (hk : Kep S w w') (hs : ∀ b, I b → ¬ S b) : ∀ (ls : List (List Ch)) {p : Option Addr} {rs : List (Option Addr × Nat)}, (∀ r ∈ rs, ¬ S r.2) → RStack I w n p ls rs → RStack I w' n p ls rs := by
  intro ls
  induction ls with
  | nil => intro p rs _ h; cases rs with
    | nil => exact h
    | cons r rs => exact h.elim
  | cons c ls ih => intro p rs hm h; cases rs with
    | nil => exact h.elim
    | cons r rs => exact ⟨Chain.keep hk hs c h.1, h.2.1.keep hk (hm r (by simp)), h.2.2.1, ih (fun r hr => hm r (List.mem_cons_of_mem _ hr)) h.2.2.2⟩
theorem RStack.mono {I J : Nat → Prop} {w : World} {n : Nat} (hs : ∀ b, I b → J b) : ∀ (ls : List (List Ch)) {p : Option Addr} {rs : List (Option Addr × Nat)}, RStack I w n p ls rs → RStack J w n p ls rs := by
  intro ls
  induction ls with
  | nil => intro p rs h; cases rs with
    | nil => exact h
    | cons r rs => exact h.elim
  | cons c ls ih => intro p rs h; cases rs with
    | nil => exact h.elim
    | cons r rs => exact ⟨Chain.mono hs c h.1, h.2.1, h.2.2.1, ih h.2.2.2⟩
theorem RStack.ordp {I : Nat → Prop} {w : World} {n : Nat} (hI : ∀ b, I b → b < w.heap.size) : ∀ (ls : List (List Ch)) {p : Option Addr} {rs : List (Option Addr × Nat)}, RStack I w n p ls rs → ord p ≤ w.heap.size := by
  intro ls
  induction ls with
  | nil => intro p rs h; cases rs with
    | nil => cases h; exact Nat.zero_le _
    | cons r rs => exact h.elim
  | cons c ls ih => intro p rs h; cases rs with
    | nil => exact h.elim
    | cons r rs =>
      cases c with
      | nil => have := h.1; cases this; exact ih h.2.2.2
      | cons c l => obtain ⟨⟨b, q, rfl, ⟨f, hb, _⟩, _⟩, _⟩ := h; exact hI b hb

/-! ### a journal -/
/-- A journal's cells. -/
abbrev jc (pj cb n cap : Nat) (nw : Option Addr) (v : Value) : Array Value := #[.pointer (some ⟨pj, 0, none⟩), .slice (some ⟨cb, 0, none⟩) n cap, .pointer nw, v]
structure JX (w : World) (M I : Nat → Prop) (pj : Nat) (zs : List Int) (ls : List (List Ch)) (cb cap : Nat) (nw : Option Addr) (v : Value) (rs : List (Option Addr × Nat)) : Prop where
  blk : Blk w pj (jc pj cb zs.length cap nw v) 49
  row : w.ownsRow 0 31 1 (.slice (some ⟨cb, 0, none⟩) zs.length cap) zs.length (zs.map (Value.int .u64))
  lev : LRow w v rs
  stk : RStack I w zs.length nw ls rs
  one : (rs.map (·.2)).Nodup
  mj : M pj
  mc : M cb
  ml : ∀ g, v.ownBlock = some g → M g
  mm : ∀ r ∈ rs, M r.2
  apart : ∀ b, M b → ¬ I b
  inM : ∀ b, M b → b < w.heap.size
  inI : ∀ b, I b → ∃ cs t, Blk w b cs t
  words : Words zs
  least : 1 ≤ zs.length
  most : zs.length ≤ 4096
  deep : ls.length ≤ 65
theorem JX.ltI {M I : Nat → Prop} {w : World} {pj : Nat} {zs : List Int} {ls : List (List Ch)} {cb cap : Nat} {nw : Option Addr} {v : Value} {rs : List (Option Addr × Nat)} (h : JX w M I pj zs ls cb cap nw v rs) : ∀ b, I b → b < w.heap.size := fun b hb => by
  obtain ⟨cs, t, h3⟩ := h.inI b hb
  exact h3.lt
/-- A journal with these cells and these changes in its levels, the topmost level first. -/
def JW (w : World) (M I : Nat → Prop) (pj : Nat) (zs : List Int) (ls : List (List Ch)) : Prop := ∃ cb cap nw v rs, JX w M I pj zs ls cb cap nw v rs
theorem JX.keep {S M I : Nat → Prop} {w w' : World} {pj : Nat} {zs : List Int} {ls : List (List Ch)} {cb cap : Nat} {nw : Option Addr} {v : Value} {rs : List (Option Addr × Nat)}
    (h : JX w M I pj zs ls cb cap nw v rs) (hk : Kep S w w') (h1 : ∀ b, M b → ¬ S b) (h2 : ∀ b, I b → ¬ S b) : JX w' M I pj zs ls cb cap nw v rs :=
  { h with
    blk := h.blk.kep hk (h1 _ h.mj)
    row := hk.owns (fun k e => by obtain rfl : cb = k := by simpa [Value.ownBlock] using e
                                  exact h1 _ h.mc) h.row
    lev := h.lev.keep hk (fun g e => h1 g (h.ml g e))
    stk := RStack.keep hk h2 ls (fun r hr => h1 _ (h.mm r hr)) h.stk
    inM := fun b hb => Nat.lt_of_lt_of_le (h.inM b hb) hk.size
    inI := fun b hb => by
      obtain ⟨cs, t, h3⟩ := h.inI b hb
      exact ⟨cs, t, h3.kep hk (h2 b hb)⟩ }
theorem JW.keep {S M I : Nat → Prop} {w w' : World} {pj : Nat} {zs : List Int} {ls : List (List Ch)} (h : JW w M I pj zs ls) (hk : Kep S w w') (h1 : ∀ b, M b → ¬ S b) (h2 : ∀ b, I b → ¬ S b) : JW w' M I pj zs ls := by
  obtain ⟨cb, cap, nw, v, rs, h⟩ := h
  exact ⟨cb, cap, nw, v, rs, h.keep hk h1 h2⟩
theorem JW.bel {M I : Nat → Prop} {w w' : World} {pj : Nat} {zs : List Int} {ls : List (List Ch)} (h : JW w M I pj zs ls) (hk : Bel w w') : JW w' M I pj zs ls :=
  h.keep (S := fun _ => False) (Kep.of_bel hk) (fun _ _ => id) (fun _ _ => id)
theorem JX.bel {M I : Nat → Prop} {w w' : World} {pj : Nat} {zs : List Int} {ls : List (List Ch)} {cb cap : Nat} {nw : Option Addr} {v : Value} {rs : List (Option Addr × Nat)} (h : JX w M I pj zs ls cb cap nw v rs) (hk : Bel w w') : JX w' M I pj zs ls cb cap nw v rs :=
  h.keep (S := fun _ => False) (Kep.of_bel hk) (fun _ _ => id) (fun _ _ => id)
/-- What a call makes of a journal's blocks: others, which are new or were its own. -/
structure Step (w w' : World) (M I M' I' : Nat → Prop) : Prop where
  kep : Kep M w w'
  m : ∀ b, M' b → M b ∨ w.heap.size ≤ b
  i : ∀ b, I' b → I b ∨ w.heap.size ≤ b
  s : ∀ b, I b → I' b
theorem Step.refl (w : World) (M I : Nat → Prop) : Step w w M I M I := ⟨Kep.refl _ _, fun b h => .inl h, fun b h => .inl h, fun b h => h⟩
theorem Step.of_bel {w w' : World} (M I : Nat → Prop) (h : Bel w w') : Step w w' M I M I := ⟨Kep.of_bel h, fun b h => .inl h, fun b h => .inl h, fun b h => h⟩
theorem Step.trans {a b c : World} {M I M' I' M2 I2 : Nat → Prop} (h : Step a b M I M' I') (k : Step b c M' I' M2 I2) : Step a c M I M2 I2 := by
  refine ⟨⟨k.kep.os.trans h.kep.os, k.kep.tape.trans h.kep.tape, k.kep.output.trans h.kep.output, Nat.le_trans h.kep.size k.kep.size, fun i hi hs => ?_⟩, fun x hx => ?_, fun x hx => ?_, fun x hx => k.s x (h.s x hx)⟩
  · refine (k.kep.block i (Nat.lt_of_lt_of_le hi h.kep.size) fun hm => ?_).trans (h.kep.block i hi hs)
    rcases h.m i hm with h' | h'
    · exact hs h'
    · omega
  · rcases k.m x hx with h' | h'
    · exact h.m x h'
    · exact .inr (Nat.le_trans h.kep.size h')
  · rcases k.i x hx with h' | h'
    · exact h.i x h'
    · exact .inr (Nat.le_trans h.kep.size h')
end Jn
end Go.Proofs.Ytogphhhlbofgkaa
