/-
  Texts of this claim, put together: HpM3, Hp15, Hp16. What each one says, and under which conditions, stands ahead of it.
-/
import Derived.Test.YtahhnfnonekbmaaQF
import Derived.Test.YtahhnfnonekbmaaGHpIn

section
/-
  How a list of hops is read: what a run of reads is, that there is one for any bytes, that a list's own bytes are read as it, and that what is read without a fault has just those bytes. No program.
-/
namespace Go.Proofs.Ytahhnfnonekbmaa
open Go.RowKit Go.Shelf
set_option linter.unusedVariables false
namespace Hp
open Cd

/-- How a hop is read, behind one that was created at before. -/
def Th (zs : List Int) (k : Nat) (f : Option (Int × Int)) (before a b c d : Int) (k' : Nat) (f' : Option (Int × Int)) : Prop :=
  ∃ k1 f1 k2 f2 k3 f3 f4, RN zs k f 0 63 a k1 f1 ∧ RN zs k1 f1 0 31 b k2 f2 ∧ RN zs k2 f2 0 31 c k3 f3 ∧ RN zs k3 (failOf f3 (if c = b then 3 else 0) (atOf k2 f2)) 1 4294967296 d k' f4 ∧
    f' = failOf f4 (if d < before then 9 else 0) (atOf k3 (failOf f3 (if c = b then 3 else 0) (atOf k2 f2)))
/-- How hops are read, one behind the other. -/
def Lk (zs : List Int) : List R4 → Nat → Option (Int × Int) → Int → Nat → Option (Int × Int) → Prop
  | [], k, f, _, k', f' => k' = k ∧ f' = f
  | (a, b, c, d) :: l, k, f, before, k', f' => ∃ k1 f1, Th zs k f before a b c d k1 f1 ∧ Lk zs l k1 f1 d k' f'
theorem fail_some (p : Int × Int) (e q : Int) : failOf (some p) e q = some p := by
  unfold failOf
  split <;> rfl
theorem rn_some {zs : List Int} {k : Nat} {p : Int × Int} {least most x : Int} {k' : Nat} {f' : Option (Int × Int)} (h : RN zs k (some p) least most x k' f') : x = 0 ∧ k' = k ∧ f' = some p := by
  rcases h with ⟨q, h1, h2, h3, h4⟩ | ⟨h1, _⟩
  · exact ⟨h2, h3, h4⟩
  · cases h1
theorem th_some {zs : List Int} {k : Nat} {p : Int × Int} {before a b c d : Int} {k' : Nat} {f' : Option (Int × Int)} (h : Th zs k (some p) before a b c d k' f') : f' = some p ∧ k' = k := by
  obtain ⟨k1, f1, k2, f2, k3, f3, f4, r1, r2, r3, r4, rfl⟩ := h
  obtain ⟨-, rfl, rfl⟩ := rn_some r1
  obtain ⟨-, rfl, rfl⟩ := rn_some r2
  obtain ⟨-, rfl, rfl⟩ := rn_some r3
  rw [fail_some] at r4
  obtain ⟨-, rfl, rfl⟩ := rn_some r4
  exact ⟨fail_some _ _ _, rfl⟩
theorem lk_some {zs : List Int} : ∀ (l : List R4) {k : Nat} {p : Int × Int} {before : Int} {k' : Nat} {f' : Option (Int × Int)}, Lk zs l k (some p) before k' f' → f' = some p ∧ k' = k
  | [], k, p, before, k', f', h => ⟨h.2, h.1⟩
  | (a, b, c, d) :: l, k, p, before, k', f', h => by
    obtain ⟨k1, f1, h1, h2⟩ := h
    obtain ⟨rfl, rfl⟩ := th_some h1
    exact lk_some l h2
theorem rn_stay (zs : List Int) (k : Nat) (p : Int × Int) (least most : Int) : RN zs k (some p) least most 0 k (some p) := .inl ⟨p, rfl, rfl, rfl, rfl⟩
theorem th_stay (zs : List Int) (k : Nat) (p : Int × Int) (before : Int) : Th zs k (some p) before 0 0 0 0 k (some p) :=
  ⟨k, some p, k, some p, k, some p, some p, rn_stay .., rn_stay .., rn_stay .., by rw [fail_some]; exact rn_stay .., by rw [fail_some]⟩
theorem fail_no {e q : Int} (h : e = 0) : failOf none e q = none := by unfold failOf; rw [if_pos h]
theorem fail_yes {e q : Int} (h : e ≠ 0) : failOf none e q = some (e, q) := by unfold failOf; rw [if_neg h]
/-- A hop is read of any bytes; without a fault it may be, and its bytes are just those. -/
theorem th_of (zs : List Int) (hb : Bytes zs) (k : Nat) (hk : k ≤ zs.length) (before : Int) : ∃ a b c d k' f', Th zs k none before a b c d k' f' ∧ k' ≤ zs.length ∧ W4 (a, b, c, d) ∧ (∀ p, f' = some p → p.1 ≠ 0) ∧
    (f' = none → may (a, b, c, d) = true ∧ before ≤ d ∧ zs.take k ++ Rm.encs [a, b, c, d] = zs.take k') := by
  obtain ⟨a, k1, f1, r1, q1, h1⟩ := Rm.rn_of zs hb k hk 0 63
  rcases h1 with ⟨rfl, a0, a1, t1⟩ | ⟨e, he, rfl, rfl, rfl⟩
  · obtain ⟨b, k2, f2, r2, q2, h2⟩ := Rm.rn_of zs hb k1 q1 0 31
    rcases h2 with ⟨rfl, b0, b1, t2⟩ | ⟨e, he, rfl, rfl, rfl⟩
    · obtain ⟨c, k3, f3, r3, q3, h3⟩ := Rm.rn_of zs hb k2 q2 0 31
      rcases h3 with ⟨rfl, c0, c1, t3⟩ | ⟨e, he, rfl, rfl, rfl⟩
      · by_cases hcb : c = b
        · refine ⟨a, b, c, 0, k3, some (3, (k2 : Int)), ⟨k1, none, k2, none, k3, none, some (3, (k2 : Int)), r1, r2, r3, ?_, ?_⟩, q3, by unfold W4 I64; omega, fun p hp => (by injection hp with hp; rw [← hp]; simp), fun h => (by cases h)⟩
          · rw [if_pos hcb, fail_yes (by decide)]
            exact rn_stay ..
          · rw [fail_some]
        · obtain ⟨d, k4, f4, r4, q4, h4⟩ := Rm.rn_of zs hb k3 q3 1 4294967296
          have e0 : failOf none (if c = b then 3 else 0) (atOf k2 none) = none := by rw [if_neg hcb]; exact fail_no rfl
          rcases h4 with ⟨rfl, d0, d1, t4⟩ | ⟨e, he, rfl, rfl, rfl⟩
          · by_cases hdb : d < before
            · refine ⟨a, b, c, d, k4, some (9, (k3 : Int)), ⟨k1, none, k2, none, k3, none, none, r1, r2, r3, by rw [e0]; exact r4, ?_⟩, q4, by unfold W4 I64; omega, fun p hp => (by injection hp with hp; rw [← hp]; simp), fun h => (by cases h)⟩
              rw [e0, if_pos hdb, fail_yes (by decide)]
              rfl
            · refine ⟨a, b, c, d, k4, none, ⟨k1, none, k2, none, k3, none, none, r1, r2, r3, by rw [e0]; exact r4, ?_⟩, q4, by unfold W4 I64; omega, fun p hp => (by cases hp), fun _ => ⟨(may_iff _ _ _ _).2 ⟨a0, by omega, b0, by omega, c0, by omega, fun h => hcb h.symm, d0, d1⟩, by omega, ?_⟩⟩
              · rw [if_neg hdb, fail_no rfl]
              · rw [← t4, ← t3, ← t2, ← t1]
                simp [Rm.encs, List.append_assoc]
          · refine ⟨a, b, c, 0, k4, some (e, (k4 : Int)), ⟨k1, none, k2, none, k4, none, some (e, (k4 : Int)), r1, r2, r3, by rw [e0]; exact r4, by rw [fail_some]⟩, q4, by unfold W4 I64; omega, fun p hp => (by injection hp with hp; rw [← hp]; exact he), fun h => (by cases h)⟩
      · refine ⟨a, b, 0, 0, k3, some (e, (k3 : Int)), ⟨k1, none, k3, none, k3, some (e, (k3 : Int)), some (e, (k3 : Int)), r1, r2, r3, by rw [fail_some]; exact rn_stay .., by rw [fail_some]⟩, q3, by unfold W4 I64; omega, fun p hp => (by injection hp with hp; rw [← hp]; exact he), fun h => (by cases h)⟩
    · refine ⟨a, 0, 0, 0, k2, some (e, (k2 : Int)), ⟨k2, none, k2, some (e, (k2 : Int)), k2, some (e, (k2 : Int)), some (e, (k2 : Int)), r1, r2, rn_stay .., by rw [fail_some]; exact rn_stay .., by rw [fail_some]⟩, q2, by unfold W4 I64; omega, fun p hp => (by injection hp with hp; rw [← hp]; exact he), fun h => (by cases h)⟩
  · refine ⟨0, 0, 0, 0, k1, some (e, (k1 : Int)), ⟨k1, some (e, (k1 : Int)), k1, some (e, (k1 : Int)), k1, some (e, (k1 : Int)), some (e, (k1 : Int)), r1, rn_stay .., rn_stay .., by rw [fail_some]; exact rn_stay .., by rw [fail_some]⟩, q1, by unfold W4 I64; omega, fun p hp => (by injection hp with hp; rw [← hp]; exact he), fun h => (by cases h)⟩
/-- A list is read of any bytes; without a fault it is in order, and its bytes are just those. -/
theorem lk_of (zs : List Int) (hb : Bytes zs) : ∀ (m k : Nat) (f : Option (Int × Int)) (before : Int), k ≤ zs.length → (∀ p, f = some p → p.1 ≠ 0) → ∃ l k' f', Lk zs l k f before k' f' ∧ l.length = m ∧ k' ≤ zs.length ∧ (∀ r ∈ l, W4 r) ∧ (∀ p, f' = some p → p.1 ≠ 0) ∧
    (f' = none → Srt before l ∧ zs.take k ++ Rm.encs (l.flatMap nums) = zs.take k')
  | 0, k, f, before, hk, hf => ⟨[], k, f, ⟨rfl, rfl⟩, rfl, hk, fun r h => (by cases h), hf, fun _ => ⟨trivial, by simp [Rm.encs]⟩⟩
  | m + 1, k, some p, before, hk, hf => by
    obtain ⟨l, k', f', h2, h3, h4, h5, h6, _⟩ := lk_of zs hb m k (some p) 0 hk hf
    obtain ⟨e1, _⟩ := lk_some l h2
    refine ⟨(0, 0, 0, 0) :: l, k', f', ⟨k, some p, th_stay .., h2⟩, by simp [h3], h4, fun r hr => ?_, h6, fun h => (by rw [e1] at h; cases h)⟩
    rcases List.mem_cons.1 hr with rfl | hr
    · unfold W4 I64; omega
    · exact h5 r hr
  | m + 1, k, none, before, hk, hf => by
    obtain ⟨a, b, c, d, k1, f1, h1, hk1, b1, n1, g1⟩ := th_of zs hb k hk before
    obtain ⟨l, k', f', h2, h3, h4, h5, h6, h7⟩ := lk_of zs hb m k1 f1 d hk1 n1
    refine ⟨(a, b, c, d) :: l, k', f', ⟨k1, f1, h1, h2⟩, by simp [h3], h4, fun r hr => ?_, h6, fun h => ?_⟩
    · rcases List.mem_cons.1 hr with rfl | hr
      · exact b1
      · exact h5 r hr
    · have e1 : f1 = none := by
        cases f1 with
        | none => rfl
        | some p => have := (lk_some l h2).1; rw [this] at h; cases h
      obtain ⟨q1, q2, q3⟩ := g1 e1
      obtain ⟨q4, q5⟩ := h7 h
      refine ⟨⟨q1, q2, q4⟩, ?_⟩
      rw [← q5, ← q3, List.flatMap_cons, Rm.encs_app, List.append_assoc]
      rfl
/-- A list's own bytes are read as it. -/
theorem lk_enc : ∀ (l : List R4) (pre post : List Int) (before : Int), Srt before l → Lk (pre ++ Rm.encs (l.flatMap nums) ++ post) l pre.length none before (pre.length + (Rm.encs (l.flatMap nums)).length) none
  | [], pre, post, before, _ => ⟨by simp [Rm.encs], rfl⟩
  | (a, b, c, d) :: l, pre, post, before, hs => by
    obtain ⟨h1, h2, h3⟩ := hs
    obtain ⟨a0, a1, b0, b1, c0, c1, hbc, d0, d1⟩ := (may_iff _ _ _ _).1 h1
    have e : Rm.encs (((a, b, c, d) :: l).flatMap nums) = enc a ++ (enc b ++ (enc c ++ (enc d ++ Rm.encs (l.flatMap nums)))) := by
      rw [List.flatMap_cons, Rm.encs_app]
      simp [nums, Rm.encs, List.append_assoc]
    have r1 := Rm.rn_enc pre (enc b ++ (enc c ++ (enc d ++ (Rm.encs (l.flatMap nums) ++ post)))) a 0 63 a0 (by omega) a0 (by omega)
    have r2 := Rm.rn_enc (pre ++ enc a) (enc c ++ (enc d ++ (Rm.encs (l.flatMap nums) ++ post))) b 0 31 b0 (by omega) b0 (by omega)
    have r3 := Rm.rn_enc (pre ++ enc a ++ enc b) (enc d ++ (Rm.encs (l.flatMap nums) ++ post)) c 0 31 c0 (by omega) c0 (by omega)
    have r4 := Rm.rn_enc (pre ++ enc a ++ enc b ++ enc c) (Rm.encs (l.flatMap nums) ++ post) d 1 4294967296 (by omega) (by omega) d0 d1
    have r5 := lk_enc l (pre ++ enc a ++ enc b ++ enc c ++ enc d) post d h3
    rw [e]
    simp only [List.append_assoc, List.length_append] at r1 r2 r3 r4 r5 ⊢
    refine ⟨pre.length + (enc a).length + (enc b).length + (enc c).length + (enc d).length, none, ⟨pre.length + (enc a).length, none, pre.length + (enc a).length + (enc b).length, none, pre.length + (enc a).length + (enc b).length + (enc c).length, none, none, r1, ?_, ?_, ?_, ?_⟩, ?_⟩
    · simpa [Nat.add_assoc] using r2
    · simpa [Nat.add_assoc] using r3
    · rw [if_neg (fun h => hbc h.symm), fail_no rfl]
      simpa [Nat.add_assoc] using r4
    · rw [if_neg (by show ¬ d < before; have : before ≤ d := h2; omega), fail_no rfl]
    · simpa [Nat.add_assoc] using r5
end Hp
end Go.Proofs.Ytahhnfnonekbmaa
end

section
/-
  What hop.take reads, behind a hop that was created at before. Conditions: the reader is one that NewReader made of at most 10^6 bytes.
-/
namespace Go.Proofs.Ytahhnfnonekbmaa
open Go.RowKit Go.Shelf
set_option linter.unusedVariables false
set_option linter.unusedSimpArgs false
namespace Hp
open Cd

/-- A reader stands while a block that is no fault's turns. -/
theorem rd_kep {w w' : World} {b p : Nat} {A : Option Addr} {n c : Nat} {zs : List Int} {k : Nat} {f : Option (Int × Int)} {C : Array Value} {t : TypeId} (h : RD b w b A n c zs k f) (hp : Blk w p C t) (ht : t ≠ 48)
    (hk : Kep (fun i => i = p) w w') (hbp : b ≠ p) (hA : 0 < n → ∀ x : Addr, A = some x → x.block ≠ p) : RD b w' b A n c zs k f := by
  obtain ⟨F, h1, h2, h3⟩ := h
  refine ⟨F, h1.kep0 hk hbp hA, h2.kep hk (fun x hx e => ?_), h3⟩
  rcases h2 with ⟨_, h⟩ | ⟨e', q, fb, _, h5, _, h7, _⟩
  · rw [h] at hx; cases hx
  · rw [h5] at hx
    injection hx with hx
    subst hx
    have e : fb = p := e
    subst e
    have := (show w.heap[fb]? = _ from hp).symm.trans h7
    simp at this
    exact ht this.2
theorem kep_past1 {w0 w w' : World} {b p : Nat} (h : Kep (fun i => i = b) w0 w) (hk : Kep (fun i => i = p) w w') (hp : w0.heap.size ≤ p) : Kep (fun i => i = b) w0 w' :=
  ⟨hk.os.trans h.os, hk.tape.trans h.tape, hk.output.trans h.output, Nat.le_trans h.size hk.size, fun i hi hS => (hk.block i (Nat.lt_of_lt_of_le hi h.size) (by omega)).trans (h.block i hi hS)⟩
/-- The memory while a hop is read: the hop's block p. -/
structure Tx (w0 w : World) (b p : Nat) (A : Option Addr) (n c : Nat) (zs : List Int) (k : Nat) (f : Option (Int × Int)) (x1 x2 x3 x4 : Int) : Prop where
  rd : RD b w b A n c zs k f
  sp : Blk w p #[.int .i64 x1, .int .i64 x2, .int .i64 x3, .int .i64 x4] 24
  kep : Kep (fun i => i = b) w0 w
  bp : b < w0.heap.size
  hp : w0.heap.size ≤ p
  ap : 0 < n → ∀ x : Addr, A = some x → x.block < w0.heap.size
section
variable {w0 w w' : World} {b p : Nat} {A : Option Addr} {n c : Nat} {zs : List Int} {k k' : Nat} {f f' : Option (Int × Int)} {x1 x2 x3 x4 y1 y2 y3 y4 : Int}
theorem Tx.call (h : Tx w0 w b p A n c zs k f x1 x2 x3 x4) (hr : RD b w' b A n c zs k' f') (hk : Kep (fun i => i = b) w w') : Tx w0 w' b p A n c zs k' f' x1 x2 x3 x4 :=
  ⟨hr, h.sp.kep hk (by have := h.bp; have := h.hp; omega), h.kep.trans hk, h.bp, h.hp, h.ap⟩
theorem Tx.bel (h : Tx w0 w b p A n c zs k f x1 x2 x3 x4) (hk : Bel w w') : Tx w0 w' b p A n c zs k f x1 x2 x3 x4 := h.call (h.rd.bel hk) (Kep.of_bel hk)
theorem Tx.put (h : Tx w0 w b p A n c zs k f x1 x2 x3 x4) (i : Nat) (v : Value)
    (e : (#[.int .i64 x1, .int .i64 x2, .int .i64 x3, .int .i64 x4] : Array Value).setIfInBounds i v = #[.int .i64 y1, .int .i64 y2, .int .i64 y3, .int .i64 y4]) : Tx w0 (w.setCell ⟨p, i, none⟩ v) b p A n c zs k f y1 y2 y3 y4 := by
  have hk : Kep (fun i => i = p) w (w.setCell ⟨p, i, none⟩ v) := (Kep.refl _ _).set_self i v
  refine ⟨rd_kep h.rd h.sp (by decide) hk (by have := h.bp; have := h.hp; omega) (fun hn x hx => by have := h.ap hn x hx; have := h.hp; omega), ?_, kep_past1 h.kep hk h.hp, h.bp, h.hp, h.ap⟩
  rw [← e]
  exact h.sp.set i v
theorem Tx.lt (h : Tx w0 w b p A n c zs k f x1 x2 x3 x4) : b < w.heap.size := Nat.lt_of_lt_of_le h.bp h.kep.size
end
theorem fail_eq {P : Prop} [Decidable P] (h : ¬ P) (f : Option (Int × Int)) (e q : Int) : failOf f (if P then e else 0) q = f := by
  rw [if_neg h]; unfold failOf; rw [if_pos rfl]
set_option maxRecDepth 10000 in
set_option maxHeartbeats 8000000 in
theorem take (b : Nat) (A : Option Addr) (n c : Nat) (zs : List Int) (k : Nat) (f : Option (Int × Int)) (before x1 x2 x3 x4 : Int) (k' : Nat) (f' : Option (Int × Int)) (w : World) (h : RD b w b A n c zs k f) (hA : 0 < n → ∀ x : Addr, A = some x → x.block < w.heap.size) (ht : Th zs k f before x1 x2 x3 x4 k' f') :
    Calls Try.prog 57 #[.pointer (some ⟨b, 0, none⟩), .int .i64 before] w fun r w' => r = .returned (.agg #[.int .i64 x1, .int .i64 x2, .int .i64 x3, .int .i64 x4]) ∧ RD b w' b A n c zs k' f' ∧ Kep (fun i => i = b) w w' := by
  obtain ⟨k1, f1, k2, f2, k3, f3, f4, r1, r2, r3, r4, hf'⟩ := ht
  have hbl : b < w.heap.size := by obtain ⟨F, hr, _⟩ := h; exact hr.blk.lt
  have T0 : Tx w (w.alloc (.cells #[.int .i64 0, .int .i64 0, .int .i64 0, .int .i64 0] 24)) b w.heap.size A n c zs k f 0 0 0 0 :=
    ⟨h.bel ((Bel.refl w).alloc _), Blk.new w _ _, Kep.of_bel ((Bel.refl w).alloc _), hbl, Nat.le_refl _, hA⟩
  have T0 := Lib.hid T0
  have N1 := Lib.hid (fun V (hv : RD b V b A n c zs k f) (hb : b < V.heap.size) => yN b b A n c zs k f 0 63 x1 k1 f1 V hv r1 (by decide) hb)
  have N2 := Lib.hid (fun V (hv : RD b V b A n c zs k1 f1) (hb : b < V.heap.size) => yN b b A n c zs k1 f1 0 31 x2 k2 f2 V hv r2 (by decide) hb)
  have AT2 := Lib.hid (fun V (hv : RD b V b A n c zs k2 f2) => rAt b zs k2 f2 V hv.rs)
  have N3 := Lib.hid (fun V (hv : RD b V b A n c zs k2 f2) (hb : b < V.heap.size) => yN b b A n c zs k2 f2 0 31 x3 k3 f3 V hv r3 (by decide) hb)
  obtain ⟨a2, ha2⟩ : ∃ a, atOf k2 f2 = a := ⟨_, rfl⟩
  rw [ha2] at AT2 r4 hf'
  have F3 := Lib.hid (fun V (hv : RD b V b A n c zs k3 f3) (hb : b < V.heap.size) => yFail b b A n c zs k3 f3 3 a2 V hv hb)
  obtain ⟨f5, hf5⟩ : ∃ f, failOf f3 (if x3 = x2 then 3 else 0) a2 = f := ⟨_, rfl⟩
  have HF5 := Lib.hid hf5
  rw [hf5] at r4 hf'
  have AT3 := Lib.hid (fun V (hv : RD b V b A n c zs k3 f5) => rAt b zs k3 f5 V hv.rs)
  have N4 := Lib.hid (fun V (hv : RD b V b A n c zs k3 f5) (hb : b < V.heap.size) => yN b b A n c zs k3 f5 1 4294967296 x4 k' f4 V hv r4 (by decide) hb)
  obtain ⟨a3, ha3⟩ : ∃ a, atOf k3 f5 = a := ⟨_, rfl⟩
  rw [ha3] at AT3 hf'
  have F4 := Lib.hid (fun V (hv : RD b V b A n c zs k' f4) (hb : b < V.heap.size) => yFail b b A n c zs k' f4 9 a3 V hv hb)
  have HF := Lib.hid hf'
  clear h hA r1 r2 r3 r4 ha2 ha3 hbl hf' hf5
  go_enter Try.func57, Try.ntmps57
  go_upto_region 1 with fail
  obtain ⟨W, hW⟩ : ∃ W, w.alloc (.cells #[.int .i64 0, .int .i64 0, .int .i64 0, .int .i64 0] 24) = W := ⟨_, rfl⟩
  obtain ⟨p, hp⟩ : ∃ p, w.heap.size = p := ⟨_, rfl⟩
  rw [hW, hp] at T0
  rw [hW, hp]
  clear hW hp
  go_wp2_with fail
  refine (N1.out _ T0.out.rd T0.out.lt).mono ?_
  rintro r w2 ⟨rfl, hr, hk⟩
  have T1 := Lib.hid (T0.out.call hr hk)
  clear hr hk T0
  have c0 := T1.out.sp.cell 0 rfl
  have f0_ := T1.out.sp.frozen 0
  go_upto_region 2 with fail
  have T2 := Lib.hid (T1.out.put (y1 := x1) (y2 := 0) (y3 := 0) (y4 := 0) 0 (.int .i64 x1) rfl)
  obtain ⟨WT2, hW⟩ : ∃ W, World.setCell w2 ⟨p, 0, none⟩ (.int .i64 x1) = W := ⟨_, rfl⟩
  rw [hW] at T2 ⊢
  clear hW c0 f0_ T1
  go_wp2_with fail
  refine (N2.out _ T2.out.rd T2.out.lt).mono ?_
  rintro r w3 ⟨rfl, hr, hk⟩
  have T3 := Lib.hid (T2.out.call hr hk)
  clear hr hk T2
  have c0 := T3.out.sp.cell 1 rfl
  have f0_ := T3.out.sp.frozen 1
  go_upto_region 3 with fail
  have T4 := Lib.hid (T3.out.put (y1 := x1) (y2 := x2) (y3 := 0) (y4 := 0) 1 (.int .i64 x2) rfl)
  obtain ⟨WT4, hW⟩ : ∃ W, World.setCell w3 ⟨p, 1, none⟩ (.int .i64 x2) = W := ⟨_, rfl⟩
  rw [hW] at T4 ⊢
  clear hW c0 f0_ T3
  go_wp2_with fail
  refine (AT2.out _ T4.out.rd).mono ?_
  rintro r w4 ⟨rfl, rfl⟩
  go_wp2_with fail
  refine (N3.out _ T4.out.rd T4.out.lt).mono ?_
  rintro r w5 ⟨rfl, hr, hk⟩
  have T5 := Lib.hid (T4.out.call hr hk)
  clear hr hk T4
  have c0 := T5.out.sp.cell 2 rfl
  have f0_ := T5.out.sp.frozen 2
  go_upto_region 5 with fail
  have T6 := Lib.hid (T5.out.put (y1 := x1) (y2 := x2) (y3 := x3) (y4 := 0) 2 (.int .i64 x3) rfl)
  obtain ⟨WT6, hW⟩ : ∃ W, World.setCell w5 ⟨p, 2, none⟩ (.int .i64 x3) = W := ⟨_, rfl⟩
  rw [hW] at T6 ⊢
  clear hW c0 f0_ T5
  have c1 := T6.out.sp.cell 1 rfl
  have c2 := T6.out.sp.cell 2 rfl
  by_cases h6 : x3 = x2
  · have HFF := Lib.hid (show failOf f3 3 a2 = f5 by rw [← HF5.out, if_pos h6])
    have e6 : (x3 == x2) = true := by rw [beq_iff_eq]; exact h6
    have H6 := Lib.hid h6
    clear h6
    go_wp2_with fail
    refine (F3.out _ T6.out.rd T6.out.lt).mono ?_
    rintro r w6 ⟨rfl, hr, hk⟩
    rw [HFF.out] at hr
    have T7 := Lib.hid (T6.out.call hr hk)
    clear hr hk c1 c2 T6 e6
    go_wp2_with fail
    refine (AT3.out _ T7.out.rd).mono ?_
    rintro r w7 ⟨rfl, rfl⟩
    go_wp2_with fail
    refine (N4.out _ T7.out.rd T7.out.lt).mono ?_
    rintro r w8 ⟨rfl, hr, hk⟩
    have T8 := Lib.hid (T7.out.call hr hk)
    clear hr hk T7
    have c0 := T8.out.sp.cell 3 rfl
    have f0_ := T8.out.sp.frozen 3
    go_upto_region 9 with fail
    have T9 := Lib.hid (T8.out.put (y1 := x1) (y2 := x2) (y3 := x3) (y4 := x4) 3 (.int .i64 x4) rfl)
    obtain ⟨WT9, hW⟩ : ∃ W, World.setCell w8 ⟨p, 3, none⟩ (.int .i64 x4) = W := ⟨_, rfl⟩
    rw [hW] at T9 ⊢
    clear hW c0 f0_ T8
    have c3 := T9.out.sp.cell 3 rfl
    by_cases h9 : x4 < before
    · have HFF := Lib.hid (show failOf f4 9 a3 = f' by rw [HF.out, if_pos h9])
      go_wp2_with fail
      refine (F4.out _ T9.out.rd T9.out.lt).mono ?_
      rintro r wa ⟨rfl, hr, hk⟩
      rw [HFF.out] at hr
      have Ta := Lib.hid (T9.out.call hr hk)
      clear hr hk c3 T9
      have c0 := Ta.out.sp.cell 0 rfl
      have c1 := Ta.out.sp.cell 1 rfl
      have c2 := Ta.out.sp.cell 2 rfl
      have c3 := Ta.out.sp.cell 3 rfl
      have g0 := Ta.out.sp.frozen 0
      have g1 := Ta.out.sp.frozen 1
      have g2 := Ta.out.sp.frozen 2
      have g3 := Ta.out.sp.frozen 3
      have TF := Lib.hid ((((Ta.out.put (y1 := x1) (y2 := x2) (y3 := x3) (y4 := x4) 0 (.int .i64 x1) rfl).put (y1 := x1) (y2 := x2) (y3 := x3) (y4 := x4) 1 (.int .i64 x2) rfl).put (y1 := x1) (y2 := x2) (y3 := x3) (y4 := x4) 2 (.int .i64 x3) rfl).put (y1 := x1) (y2 := x2) (y3 := x3) (y4 := x4) 3 (.int .i64 x4) rfl)
      go_wp2_with fail
      refine bodyPost_ret (Pm.res_c rfl _ _ ⟨p, 0, none⟩ _ rfl (load_h TF.out.sp)) rfl ⟨rfl, TF.out.rd, TF.out.kep⟩
    · obtain rfl : f' = f4 := by rw [HF.out, fail_eq h9]
      clear c3
      have c0 := T9.out.sp.cell 0 rfl
      have c1 := T9.out.sp.cell 1 rfl
      have c2 := T9.out.sp.cell 2 rfl
      have c3 := T9.out.sp.cell 3 rfl
      have g0 := T9.out.sp.frozen 0
      have g1 := T9.out.sp.frozen 1
      have g2 := T9.out.sp.frozen 2
      have g3 := T9.out.sp.frozen 3
      have TF := Lib.hid ((((T9.out.put (y1 := x1) (y2 := x2) (y3 := x3) (y4 := x4) 0 (.int .i64 x1) rfl).put (y1 := x1) (y2 := x2) (y3 := x3) (y4 := x4) 1 (.int .i64 x2) rfl).put (y1 := x1) (y2 := x2) (y3 := x3) (y4 := x4) 2 (.int .i64 x3) rfl).put (y1 := x1) (y2 := x2) (y3 := x3) (y4 := x4) 3 (.int .i64 x4) rfl)
      go_wp2_with fail
      refine bodyPost_ret (Pm.res_c rfl _ _ ⟨p, 0, none⟩ _ rfl (load_h TF.out.sp)) rfl ⟨rfl, TF.out.rd, TF.out.kep⟩
  · obtain rfl : f5 = f3 := by rw [← HF5.out, fail_eq h6]
    have e6 : (x3 == x2) = false := beq_eq_false_iff_ne.2 h6
    have H6 := Lib.hid h6
    clear h6
    go_upto_region 7 with fail
    clear c1 c2 e6
    go_wp2_with fail
    refine (AT3.out _ T6.out.rd).mono ?_
    rintro r w7 ⟨rfl, rfl⟩
    go_wp2_with fail
    refine (N4.out _ T6.out.rd T6.out.lt).mono ?_
    rintro r w8 ⟨rfl, hr, hk⟩
    have T8 := Lib.hid (T6.out.call hr hk)
    clear hr hk T6
    have c0 := T8.out.sp.cell 3 rfl
    have f0_ := T8.out.sp.frozen 3
    go_upto_region 9 with fail
    have T9 := Lib.hid (T8.out.put (y1 := x1) (y2 := x2) (y3 := x3) (y4 := x4) 3 (.int .i64 x4) rfl)
    obtain ⟨WT9, hW⟩ : ∃ W, World.setCell w8 ⟨p, 3, none⟩ (.int .i64 x4) = W := ⟨_, rfl⟩
    rw [hW] at T9 ⊢
    clear hW c0 f0_ T8
    have c3 := T9.out.sp.cell 3 rfl
    by_cases h9 : x4 < before
    · have HFF := Lib.hid (show failOf f4 9 a3 = f' by rw [HF.out, if_pos h9])
      go_wp2_with fail
      refine (F4.out _ T9.out.rd T9.out.lt).mono ?_
      rintro r wa ⟨rfl, hr, hk⟩
      rw [HFF.out] at hr
      have Ta := Lib.hid (T9.out.call hr hk)
      clear hr hk c3 T9
      have c0 := Ta.out.sp.cell 0 rfl
      have c1 := Ta.out.sp.cell 1 rfl
      have c2 := Ta.out.sp.cell 2 rfl
      have c3 := Ta.out.sp.cell 3 rfl
      have g0 := Ta.out.sp.frozen 0
      have g1 := Ta.out.sp.frozen 1
      have g2 := Ta.out.sp.frozen 2
      have g3 := Ta.out.sp.frozen 3
      have TF := Lib.hid ((((Ta.out.put (y1 := x1) (y2 := x2) (y3 := x3) (y4 := x4) 0 (.int .i64 x1) rfl).put (y1 := x1) (y2 := x2) (y3 := x3) (y4 := x4) 1 (.int .i64 x2) rfl).put (y1 := x1) (y2 := x2) (y3 := x3) (y4 := x4) 2 (.int .i64 x3) rfl).put (y1 := x1) (y2 := x2) (y3 := x3) (y4 := x4) 3 (.int .i64 x4) rfl)
      go_wp2_with fail
      refine bodyPost_ret (Pm.res_c rfl _ _ ⟨p, 0, none⟩ _ rfl (load_h TF.out.sp)) rfl ⟨rfl, TF.out.rd, TF.out.kep⟩
    · obtain rfl : f' = f4 := by rw [HF.out, fail_eq h9]
      clear c3
      have c0 := T9.out.sp.cell 0 rfl
      have c1 := T9.out.sp.cell 1 rfl
      have c2 := T9.out.sp.cell 2 rfl
      have c3 := T9.out.sp.cell 3 rfl
      have g0 := T9.out.sp.frozen 0
      have g1 := T9.out.sp.frozen 1
      have g2 := T9.out.sp.frozen 2
      have g3 := T9.out.sp.frozen 3
      have TF := Lib.hid ((((T9.out.put (y1 := x1) (y2 := x2) (y3 := x3) (y4 := x4) 0 (.int .i64 x1) rfl).put (y1 := x1) (y2 := x2) (y3 := x3) (y4 := x4) 1 (.int .i64 x2) rfl).put (y1 := x1) (y2 := x2) (y3 := x3) (y4 := x4) 2 (.int .i64 x3) rfl).put (y1 := x1) (y2 := x2) (y3 := x3) (y4 := x4) 3 (.int .i64 x4) rfl)
      go_wp2_with fail
      refine bodyPost_ret (Pm.res_c rfl _ _ ⟨p, 0, none⟩ _ rfl (load_h TF.out.sp)) rfl ⟨rfl, TF.out.rd, TF.out.kep⟩
end Hp
end Go.Proofs.Ytahhnfnonekbmaa
end

section
/-
  What hop.Read answers. Conditions: at most 10^6 bytes; the bytes are bytes.
-/
namespace Go.Proofs.Ytahhnfnonekbmaa
open Go.RowKit Go.Shelf
set_option linter.unusedVariables false
set_option linter.unusedSimpArgs false
namespace Hp
open Cd

theorem toK {S : Nat → Prop} {a w : World} (h : Cd.Kep S a w) : Kk.Kep S a w := ⟨h.os, h.tape, h.output, h.size, h.block⟩
theorem ofK {S : Nat → Prop} {a w : World} (h : Kk.Kep S a w) : Cd.Kep S a w := ⟨h.os, h.tape, h.output, h.size, h.block⟩
theorem res_tc {fn : Func} {p q : Tmp} {tq : TypeId} (h : fn.results = #[.tmp p, .cell q tq]) (tmps : Array Value) (w : World) (c : Addr) (X Y : Value)
    (hp : tmps.getD p undef = X) (hq : tmps.getD q undef = .pointer (some c)) (hY : (loadVar tq c).run Try.prog w = .ok Y w) : (results fn tmps).run Try.prog w = .ok (.tuple #[X, Y]) w := by
  have hp' : tmps[p]?.getD undef = X := by simpa using hp
  have hq' : tmps[q]?.getD undef = .pointer (some c) := by simpa using hq
  simp [results, h, hp', hq', asAddr, hY]
theorem load_flt {w : World} {b : Nat} {a1 a2 : Int} (h : Blk w b #[.int .i64 a1, .int .i64 a2] 48) : (loadVar 48 ⟨b, 0, none⟩).run Try.prog w = .ok (.agg #[.int .i64 a1, .int .i64 a2]) w :=
  Pm.load_b (C := [.int .i64 a1, .int .i64 a2]) h Try.underlying48 rfl (by kernel_rfl)
theorem flt_ne {w : World} {b : Nat} {A : Option Addr} {n c : Nat} {zs : List Int} {k : Nat} {p : Int × Int} (h : RD b w b A n c zs k (some p)) : p.1 ≠ 0 := by
  obtain ⟨F, _, h2, _⟩ := h
  rcases h2 with ⟨h, _⟩ | ⟨e, q, fb, h, _, _, _, h5⟩
  · cases h
  · injection h with h; subst h; exact h5
theorem end_e2 {n k : Nat} {f : Option (Int × Int)} {e1 e2 : Int} (he : endOf n k f = (e1, e2)) (hf : ∀ p, f = some p → p.1 ≠ 0) (h : e1 = 0) : e2 = 0 ∧ f = none ∧ n ≤ k := by
  cases f with
  | none =>
    have h1 : (if k < n then ((4 : Int), (k : Int)) else (0, 0)) = (e1, e2) := he
    by_cases hk : k < n
    · rw [if_pos hk] at h1
      injection h1 with h1 _
      omega
    · rw [if_neg hk] at h1
      injection h1 with _ h1
      exact ⟨h1.symm, rfl, by omega⟩
  | some p =>
    have h1 : p = (e1, e2) := he
    exact absurd h (by have := hf p rfl; rw [h1] at this; exact this)
theorem rd_blk {w : World} {b : Nat} {A : Option Addr} {n c : Nat} {zs : List Int} {k : Nat} {f : Option (Int × Int)} (h : RD b w b A n c zs k f) : ∃ C, Blk w b C 97 := by
  obtain ⟨F, h1, _⟩ := h
  exact ⟨_, h1.blk⟩
set_option maxRecDepth 100000 in
set_option maxHeartbeats 8000000 in
theorem readH (A : Option Addr) (n c : Nat) (zs : List Int) (m k1 : Nat) (f1 : Option (Int × Int)) (L : List R4) (k' : Nat) (f' : Option (Int × Int)) (e1 e2 : Int) (w : World) (hs : Sl w A n c zs) (hn : n ≤ 1000000) (hb : Bytes zs)
    (hr : RN zs 0 none 0 4096 (m : Int) k1 f1) (hm : m ≤ 4096) (hl : L.length = m) (hk : Lk zs L k1 f1 0 k' f') (he : endOf zs.length k' f' = (e1, e2)) :
    Calls Try.prog 30 #[.slice A n c] w fun r w' => ∃ v, r = .returned (.tuple #[v, .agg #[.int .i64 e1, .int .i64 e2]]) ∧ OwnH w' w.heap.size v (if e1 = 0 then L else []) ∧ Bel w w' := by
  have HS := Lib.hid hs
  have HB := Lib.hid hb
  have HR := Lib.hid hr
  have HL := Lib.hid hl
  have HK := Lib.hid hk
  have HE := Lib.hid he
  have HN := Lib.hid hn
  clear hs hb hr hl hk he hn
  have Q0 := Blk.new w #[.int .i64 0, .int .i64 0] 48
  have B0 := (Bel.refl w).alloc (.cells #[.int .i64 0, .int .i64 0] 48)
  obtain ⟨W, hW⟩ : ∃ W, w.alloc (.cells #[.int .i64 0, .int .i64 0] 48) = W := ⟨_, rfl⟩
  obtain ⟨q, hq⟩ : ∃ q, w.heap.size = q := ⟨_, rfl⟩
  rw [hW, hq] at Q0
  rw [hW] at B0
  have Q0 := Lib.hid Q0
  have B0 := Lib.hid B0
  have HW := Lib.hid hW
  have HQ := Lib.hid hq
  clear hW hq
  go_enter Try.func30, Try.ntmps30
  go_upto_region 1 with fail
  rw [HW.out, HQ.out]
  go_wp2_with fail
  refine (newReader A n c zs W (HS.out.bel B0.out) HN.out HB.out).mono ?_
  rintro r w1 ⟨b, A', c', rfl, hbb, hr, hA, kb⟩
  have Q1 := Lib.hid (Q0.out.bel kb)
  have K1 := Lib.hid (B0.out.trans kb)
  have HBQ := Lib.hid (show q < b from Nat.lt_of_lt_of_le Q0.out.lt hbb)
  have HSB := Lib.hid (show w.heap.size ≤ b from Nat.le_trans (Below.size B0.out) hbb)
  have R1 := Lib.hid (show RD b w1 b A' n c' zs 0 none from ⟨none, hr, .inl ⟨rfl, rfl⟩, fun x hx => by cases hx⟩)
  have HA1 := Lib.hid (fun (hn : 0 < n) (x : Addr) (hx : A' = some x) => show x.block < w1.heap.size from by
    obtain ⟨b', o', e, hlt, _⟩ := hr.sl.ints.cell (i := 0) hn
    rw [e] at hx; injection hx with hx; subst hx; exact hlt)
  have HBL := Lib.hid (show b < w1.heap.size from hr.blk.lt)
  clear hbb hr hA kb
  have NN := Lib.hid (yN b b A' n c' zs 0 none 0 4096 (m : Int) k1 f1 w1 R1.out HR.out (by decide) HBL.out)
  go_wp2_with fail
  refine NN.out.mono ?_
  rintro r w2 ⟨rfl, hr, hk⟩
  have R2 := Lib.hid hr
  have Q2 := Lib.hid (Q1.out.kep hk (by have := HBQ.out; omega))
  have K2 := Lib.hid (show Bel w w2 from Kep.bel K1.out hk (fun i hi => by rw [hi]; exact HSB.out))
  have HA2 := Lib.hid (fun (hn : 0 < n) (x : Addr) (hx : A' = some x) => show x.block < w2.heap.size from Nat.lt_of_lt_of_le (HA1.out hn x hx) hk.size)
  have HBL2 := Lib.hid (Nat.lt_of_lt_of_le HBL.out hk.size)
  clear hr hk NN R1 Q1 K1
  go_wp2_with fail
  go_loopw [5, 6, 13] (fun s5 s6 s13 wr => ∃ (i kk : Nat) (ff : Option (Int × Int)) (bf : Int), s13 = .int .i64 i ∧ i ≤ m ∧ s6 = .int .i64 bf ∧ Hid (OwnH wr w2.heap.size s5 (L.take i)) ∧ Hid (RD b wr b A' n c' zs kk ff) ∧ Hid (Lk zs (L.drop i) kk ff bf k' f') ∧ Hid (Kep (fun j => j = b) w2 wr)) (fun _ _ s13 _ => m - (intOf s13).toNat)
  case atStart => exact ⟨0, k1, f1, 0, rfl, Nat.zero_le _, rfl, Lib.hid (Rw.OwnR.nil_ _ _ _ _), R2, HK, Lib.hid (Kep.refl _ _)⟩
  case round =>
    obtain ⟨i, kk, ff, bf, rfl, hi, rfl, ho, hrd, hlk, hkp⟩ := hrel
    by_cases hlt : i < m
    · have hlt3 : (i : Int) < m := by omega
      obtain ⟨⟨x1, x2, x3, x4⟩, hx⟩ : ∃ r, L[i]? = some r := ⟨_, List.getElem?_eq_getElem (by rw [HL.out]; exact hlt)⟩
      have hd : L.drop i = (x1, x2, x3, x4) :: L.drop (i + 1) := by
        obtain ⟨h1, h2⟩ := List.getElem?_eq_some_iff.1 hx
        rw [List.drop_eq_getElem_cons h1, h2]
      rw [hd] at hlk
      obtain ⟨kn, fn, hth, hlk2⟩ := hlk.out
      have HLK := Lib.hid hlk2
      have HNX := Lib.hid (show L.take (i + 1) = L.take i ++ [(x1, x2, x3, x4)] by rw [List.take_add_one, hx]; rfl)
      have HLE := Lib.hid (show (L.take i).length ≤ 4096 by rw [List.length_take]; omega)
      have TK := Lib.hid (take b A' n c' zs kk ff bf x1 x2 x3 x4 kn fn wr hrd.out (fun hn x hx => Nat.lt_of_lt_of_le (HA2.out hn x hx) hkp.out.size) hth)
      clear hd hx hlk hlk2 hth
      go_wp2_with fail
      refine TK.out.mono ?_
      rintro r w3 ⟨rfl, hr3, hk3⟩
      have R3 := Lib.hid hr3
      have K3 := Lib.hid (hkp.out.trans hk3)
      have O3 := Lib.hid (show OwnH w3 w2.heap.size _ _ from ho.out.kep (S := fun i => i = b) (toK hk3) (fun j hj e => by
        subst e
        obtain ⟨C, hC⟩ := rd_blk hrd.out
        exact Rw.own_ne ho.out hC (by decide) hj))
      clear hr3 hk3 TK ho hrd hkp
      go_upto_region 7 with fail
      have X4 := Blk.new w3 #[.int .i64 x1, .int .i64 x2, .int .i64 x3, .int .i64 x4] 24
      have B4 := (Bel.refl w3).alloc (.cells #[.int .i64 x1, .int .i64 x2, .int .i64 x3, .int .i64 x4] 24)
      obtain ⟨w4, hw4⟩ : ∃ w4, w3.alloc (.cells #[.int .i64 x1, .int .i64 x2, .int .i64 x3, .int .i64 x4] 24) = w4 := ⟨_, rfl⟩
      obtain ⟨g, hg⟩ : ∃ g, w3.heap.size = g := ⟨_, rfl⟩
      rw [hw4] at X4 B4 ⊢
      rw [hg] at X4 ⊢
      have R4_ := Lib.hid (R3.out.bel B4)
      have K4 := Lib.hid (K3.out.trans (Kep.of_bel B4))
      have O4 := Lib.hid (O3.out.bel B4)
      have X4 := Lib.hid X4
      clear hw4 hg B4 R3 K3 O3
      have c0 := X4.out.cell 0 rfl
      have c1 := X4.out.cell 1 rfl
      have c2 := X4.out.cell 2 rfl
      have c3 := X4.out.cell 3 rfl
      have HX := Lib.hid (Rw.rs_one hR (r := (x1, x2, x3, x4)) (Kk.Blk.new w4 #[.int .i64 x1, .int .i64 x2, .int .i64 x3, .int .i64 x4] 24))
      have B5 := (Bel.refl w4).alloc (.cells #[.int .i64 x1, .int .i64 x2, .int .i64 x3, .int .i64 x4] 24)
      have O5 := Lib.hid (O4.out.bel B5)
      have R5 := Lib.hid (R4_.out.bel B5)
      have K5 := Lib.hid (K4.out.trans (Kep.of_bel B5))
      clear B5
      go_wp2_with (at_builtin; refine Rw.append_R hR rfl _ _ _ 24 rfl underH zero_h rfl (by decide) w2.heap.size _ (L.take i) rfl O5.out (some ⟨w4.heap.size, 0, none⟩) 1 1 [(x1, x2, x3, x4)] rfl HX.out (by have := HLE.out; omega) (by have := K4.out.size; simp; omega) ?_; intro v' w6 hown' hgrow)
      have hgrow : World.grownBy _ w6 (Value.ownBlock u5) := hgrow
      have O6 := Lib.hid hown'
      have R6 := Lib.hid (show RD b w6 b A' n c' zs kn fn from by
        rcases hob : Value.ownBlock u5 with _ | j
        · rw [hob] at hgrow
          exact R5.out.bel ⟨hgrow.os, hgrow.tape, hgrow.output, hgrow.size, fun i hi => hgrow.block i hi (by simp)⟩
        · rw [hob] at hgrow
          obtain ⟨C, hC⟩ := Rw.own_blk O5.out hob
          have hjb : b ≠ j := fun e => by
            subst e
            obtain ⟨C', hC'⟩ := rd_blk R5.out
            exact Rw.own_ne O5.out hC' (by decide) hob
          refine rd_kep R5.out hC (by decide) (ofK (Ms.kep_grown hgrow)) hjb (fun hn x hx => ?_)
          have h1 := HA2.out hn x hx
          have h2 := Rw.own_ge O5.out hob
          omega)
      have K6 := Lib.hid (show Kep (fun j => j = b) w2 w6 from ⟨hgrow.os.trans K5.out.os, hgrow.tape.trans K5.out.tape, hgrow.output.trans K5.out.output, Nat.le_trans K5.out.size hgrow.size, fun j hj hne => (hgrow.block j (Nat.lt_of_lt_of_le hj K5.out.size) (fun e => by
        have h2 := Rw.own_ge O5.out e.symm
        omega)).trans (K5.out.block j hj hne)⟩)
      clear hown' hgrow
      go_wp2_with fail
      go_roundw
      case rel => exact ⟨i + 1, kn, fn, x4, by go_num, by omega, rfl, Lib.hid (by rw [HNX.out]; exact O6.out), R6, HLK, K6⟩
      case measure => simp [intOf]; omega
    · obtain rfl : i = m := by omega
      have HLT := Lib.hid (show L.take i = L from List.take_of_length_le (by rw [HL.out]; exact Nat.le_refl _))
      have HLD := Lib.hid (show L.drop i = [] from List.drop_eq_nil_of_le (by rw [HL.out]; exact Nat.le_refl _))
      rw [HLD.out] at hlk
      obtain ⟨q1, q2⟩ := hlk.out
      subst q1 q2
      rw [HLT.out] at ho
      have Q3 := Lib.hid (Q2.out.kep hkp.out (by have := HBQ.out; omega))
      have K3 := Lib.hid (show Bel w wr from Kep.bel K2.out hkp.out (fun i hi => by rw [hi]; exact HSB.out))
      have EN := Lib.hid (rEnd b zs k' f' wr hrd.out.rs)
      rw [HE.out] at EN
      have EN := Lib.hid (show Calls Try.prog 58 #[.pointer (some ⟨b, 0, none⟩)] wr fun e w' => e = .returned (.agg #[.int .i64 e1, .int .i64 e2]) ∧ Bel wr w' from EN.out)
      have HFP := Lib.hid (fun p (hp : f' = some p) => flt_ne (by rw [hp] at hrd; exact hrd.out))
      have O3 := Lib.hid (show OwnH wr w.heap.size _ L from ho.out.mono (Below.size K2.out))
      clear hlk hkp ho hrd
      go_wp2_with fail
      refine EN.out.mono ?_
      rintro r w4 ⟨rfl, kb⟩
      have Q4 := Lib.hid (Q3.out.bel kb)
      have K4 := Lib.hid (K3.out.trans kb)
      have O4 := Lib.hid (O3.out.bel kb)
      clear kb EN Q3 K3 O3
      have T0 := Blk.new w4 #[.int .i64 e1, .int .i64 e2] 48
      have TB := (Bel.refl w4).alloc (.cells #[.int .i64 e1, .int .i64 e2] 48)
      go_upto_region 11 with fail
      obtain ⟨W5, hW⟩ : ∃ W, w4.alloc (.cells #[.int .i64 e1, .int .i64 e2] 48) = W := ⟨_, rfl⟩
      obtain ⟨u, hu⟩ : ∃ u, w4.heap.size = u := ⟨_, rfl⟩
      rw [hW] at T0 TB ⊢
      rw [hu] at T0 ⊢
      have T5 := Lib.hid T0
      have Q5 := Lib.hid (Q4.out.bel TB)
      have K5 := Lib.hid (K4.out.trans TB)
      have O5 := Lib.hid (O4.out.bel TB)
      have LU := Lib.hid (show q < u by rw [← hu]; exact Q4.out.lt)
      clear hW hu T0 TB Q4 K4 O4
      have hqu : q ≠ u := by have := LU.out; omega
      have t0 := T5.out.cell 0 rfl
      have t1 := T5.out.cell 1 rfl
      have q0 := Q5.out.cell 0 rfl
      have q1 := Q5.out.cell 1 rfl
      have fq0 := Q5.out.frozen 0
      have fq1 := Q5.out.frozen 1
      have HLQ := Lib.hid (show w.heap.size ≤ q by rw [HQ.out]; exact Nat.le_refl _)
      by_cases h0 : e1 = 0
      · obtain ⟨h2, -, -⟩ := end_e2 HE.out HFP.out h0
        subst h2
        subst h0
        have OF := Lib.hid (show OwnH ((W5.setCell ⟨q, 0, none⟩ (.int .i64 0)).setCell ⟨q, 1, none⟩ (.int .i64 0)) w.heap.size _ L from O5.out.kep (((Kk.Kep.refl (fun j => j = q) W5).set_self 0 _).set_self 1 _) (fun j hj e => by
          subst e
          exact Rw.own_ne O5.out Q5.out (by decide) hj))
        go_wp2_with fail
        have QF := ((Q5.out.set 0 (.int .i64 0)).set 1 (.int .i64 0))
        refine bodyPost_ret (res_tc rfl _ _ ⟨q, 0, none⟩ _ _ rfl rfl (load_flt QF)) rfl ⟨_, rfl, ?_, (K5.out.set HLQ.out _).set HLQ.out _⟩
        (try rw [if_pos rfl])
        exact OF.out
      · have h1 : (e1 != 0) = true := by rw [bne_iff_ne]; exact h0
        have H0 := Lib.hid h0
        clear h0
        go_wp2_with fail
        go_region
        all_goals
          go_wp2_with fail
          have QF := ((Q5.out.set 0 (.int .i64 e1)).set 1 (.int .i64 e2)).bel (Bel.refl _).drew
          refine bodyPost_ret (res_tc rfl _ _ ⟨q, 0, none⟩ _ _ rfl rfl (load_flt QF)) rfl ⟨_, rfl, ?_, ((K5.out.set HLQ.out _).set HLQ.out _).drew⟩
          first | exact Rw.OwnR.nil_ _ _ _ _ | (rw [if_neg H0.out]; exact Rw.OwnR.nil_ _ _ _ _)
end Hp
end Go.Proofs.Ytahhnfnonekbmaa
end
