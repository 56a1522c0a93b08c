/-
  What params.Read makes of bytes, field by field, and what stands in memory meanwhile: no walk. Condition: the bytes are bytes.
-/
import Derived.Test.YtpohcdfmkcfonaaGreatDoorGPPar
import Derived.Test.YtpohcdfmkcfonaaGreatDoorPB
import Derived.Test.YtpohcdfmkcfonaaGreatDoorHA
namespace Go.Proofs.YtpohcdfmkcfonaaGreatDoor
open Go.RowKit Go.Shelf
set_option linter.unusedVariables false
namespace Pm
open Kk

theorem kk {S : Nat → Prop} {a w : World} (h : Cd.Kep S a w) : Kep S a w := ⟨h.os, h.tape, h.output, h.size, h.block⟩
theorem ck {S : Nat → Prop} {a w : World} (h : Kep S a w) : Cd.Kep S a w := ⟨h.os, h.tape, h.output, h.size, h.block⟩
/-- From the record x, the place k and the fault f, with n fields still to read, the reading comes to xe, ke, fe. -/
def To (zs : List Int) (xe : Nat → Int) (ke : Nat) (fe : Option (Int × Int)) : Nat → (Nat → Int) → Nat → Option (Int × Int) → Prop
  | 0, x, k, f => x = xe ∧ k = ke ∧ f = fe
  | n + 1, x, k, f => ∃ v k' f1, Cd.RN zs k f (lo (10 - n)) (hi (10 - n)) v k' f1 ∧ (v = 0 ∨ lo (10 - n) ≤ v ∧ v ≤ hi (10 - n)) ∧ To zs xe ke fe n (upd x (10 - n) v) k' (if upd x (10 - n) v 1 ≤ upd x (10 - n) v 0 then f1 else Cd.failOf f1 9 (Cd.atOf k f))
theorem To.next {zs : List Int} {xe : Nat → Int} {ke : Nat} {fe : Option (Int × Int)} {i : Nat} {x : Nat → Int} {k : Nat} {f : Option (Int × Int)} (h : To zs xe ke fe (11 - i) x k f) (hi' : i < 11) :
    ∃ v k' f1, Cd.RN zs k f (lo i) (hi i) v k' f1 ∧ (v = 0 ∨ lo i ≤ v ∧ v ≤ hi i) ∧ To zs xe ke fe (11 - (i + 1)) (upd x i v) k' (if upd x i v 1 ≤ upd x i v 0 then f1 else Cd.failOf f1 9 (Cd.atOf k f)) := by
  rw [show 11 - i = (10 - i) + 1 by omega] at h
  obtain ⟨v, k', f1, h1, h2, h3⟩ := h
  rw [show 10 - (10 - i) = i by omega] at h1 h2 h3
  rw [show 11 - (i + 1) = 10 - i by omega]
  exact ⟨v, k', f1, h1, h2, h3⟩
/-- N reads some number of any bytes. -/
theorem rn_any (zs : List Int) (hb : Cd.Bytes zs) (k : Nat) (hk : k ≤ zs.length) (f : Option (Int × Int)) (least most : Int) : ∃ x k' f', Cd.RN zs k f least most x k' f' ∧ k' ≤ zs.length ∧ (x = 0 ∨ least ≤ x ∧ x ≤ most) := by
  cases f with
  | some p => exact ⟨0, k, some p, .inl ⟨p, rfl, rfl, rfl, rfl⟩, hk, .inl rfl⟩
  | none =>
    obtain ⟨x, k', f', hr, h0, h1, ho⟩ := Cd.ru_of zs hb k hk
    rcases hr with ⟨p, h, _⟩ | ⟨_, tl, e, bad, hw, hm, hle, hx⟩
    · cases h
    rcases hm with ⟨rfl, hk', rfl⟩ | ⟨he, rfl, rfl⟩
    · rcases ho with ⟨_, h2, h3⟩ | ⟨_, _, h2, _⟩
      · by_cases hb1 : least ≤ x ∧ x ≤ most
        · exact ⟨x, k', none, .inr ⟨rfl, tl, 0, 0, ⟨x, tl, 0, bad, hw, h0, h1, .inr (.inr ⟨rfl, hb1.1, hb1.2, rfl, rfl, rfl, rfl⟩)⟩, .inl ⟨rfl, hk', rfl⟩, hle, fun h => absurd rfl h⟩, hle, .inr hb1⟩
        · exact ⟨0, k, some (3, (k : Int)), .inr ⟨rfl, 0, 3, (k : Int), ⟨x, tl, 0, bad, hw, h0, h1, .inr (.inl ⟨rfl, by omega, rfl, rfl, rfl, rfl⟩)⟩, .inr ⟨by decide, rfl, rfl⟩, hk, fun _ => rfl⟩, hk, .inl rfl⟩
      · cases h2
    · have hx0 : x = 0 := hx he
      subst hx0
      rcases ho with ⟨h2, _⟩ | ⟨e', he', h2, _⟩
      · cases h2
      · injection h2 with h2
        injection h2 with h2 h3
        subst h2
        subst h3
        exact ⟨0, k', some (e, (k' : Int)), .inr ⟨rfl, 0, e, (k' : Int), ⟨0, tl, e, (k' : Int), hw, by decide, by decide, .inl ⟨he, rfl, rfl, rfl, rfl⟩⟩, .inr ⟨he, rfl, rfl⟩, hk, fun _ => rfl⟩, hk, .inl rfl⟩

theorem to_some (zs : List Int) (hb : Cd.Bytes zs) : ∀ (n : Nat) (x : Nat → Int) (k : Nat) (f : Option (Int × Int)), k ≤ zs.length → ∃ xe ke fe, To zs xe ke fe n x k f := by
  intro n
  induction n with
  | zero => exact fun x k f _ => ⟨x, k, f, rfl, rfl, rfl⟩
  | succ n ih =>
    intro x k f hk
    obtain ⟨v, k', f1, h1, h2, h3⟩ := rn_any zs hb k hk f (lo (10 - n)) (hi (10 - n))
    obtain ⟨xe, ke, fe, h⟩ := ih (upd x (10 - n) v) k' (if upd x (10 - n) v 1 ≤ upd x (10 - n) v 0 then f1 else Cd.failOf f1 9 (Cd.atOf k f)) h2
    exact ⟨xe, ke, fe, v, k', f1, h1, h3, h⟩
/-- Behind a fault nothing is read. -/
def zer (x : Nat → Int) : Nat → Nat → Int
  | 0 => x
  | n + 1 => zer (upd x (10 - n) 0) n
theorem to_fault (zs : List Int) (p : Int × Int) : ∀ (n : Nat) (x : Nat → Int) (k : Nat), To zs (zer x n) k (some p) n x k (some p) := by
  intro n
  induction n with
  | zero => exact fun x k => ⟨rfl, rfl, rfl⟩
  | succ n ih =>
    intro x k
    refine ⟨0, k, some p, .inl ⟨p, rfl, rfl, rfl, rfl⟩, .inl rfl, ?_⟩
    have e : (if upd x (10 - n) 0 1 ≤ upd x (10 - n) 0 0 then some p else Cd.failOf (some p) 9 (Cd.atOf k (some p))) = some p := by
      split
      · rfl
      · rfl
    rw [e]
    exact ih (upd x (10 - n) 0) k

/-- The memory while Read runs: the results' blocks, the record, the reader, the fields. -/
structure Rs (w0 : World) (a b m : Nat) (A : Option Addr) (n c : Nat) (zs : List Int) (l : Nat) (x : Nat → Int) (k : Nat) (f : Option (Int × Int)) (W : World) : Prop where
  at0 : w0.heap.size = a
  hb : a + 2 < b
  hm : b < m
  hA : ∀ y : Addr, A = some y → y.block ≠ a + 2
  rd : Cd.RD (a + 2) W b A n c zs k f
  rc : Blk W (a + 2) (recC x).toArray 24
  r1 : Blk W a (recC zr).toArray 24
  r2 : Blk W (a + 1) #[.int .i64 0, .int .i64 0] 34
  fds : Fds m W l (a + 2)
  bel : Bel w0 W
theorem Rs.up {w0 : World} {a b m : Nat} {A : Option Addr} {n c : Nat} {zs : List Int} {l : Nat} {x : Nat → Int} {k : Nat} {f : Option (Int × Int)} {W W' : World} (h : Rs w0 a b m A n c zs l x k f W) (hk : Bel W W') : Rs w0 a b m A n c zs l x k f W' :=
  ⟨h.at0, h.hb, h.hm, h.hA, h.rd.bel hk, h.rc.bel hk, h.r1.bel hk, h.r2.bel hk, h.fds.bel hk, h.bel.trans hk⟩
/-- The reader moves. -/
theorem Rs.read {w0 : World} {a b m : Nat} {A : Option Addr} {n c : Nat} {zs : List Int} {l : Nat} {x : Nat → Int} {k : Nat} {f : Option (Int × Int)} {W W' : World} (h : Rs w0 a b m A n c zs l x k f W) {k' : Nat} {f' : Option (Int × Int)} (h' : Cd.RD (a + 2) W' b A n c zs k' f') (hk : Kep (fun i => i = b) W W') : Rs w0 a b m A n c zs l x k' f' W' :=
  ⟨h.at0, h.hb, h.hm, h.hA, h', h.rc.kep hk (by have := h.hb; omega), h.r1.kep hk (by have := h.hb; omega), h.r2.kep hk (by have := h.hb; omega), h.fds.kep hk (fun i hi => by have := h.hm; omega), Kep.bel h.bel hk (fun i hi => by have := h.at0; have := h.hb; omega)⟩
/-- The record moves. -/
theorem Rs.move {w0 : World} {a b m : Nat} {A : Option Addr} {n c : Nat} {zs : List Int} {l : Nat} {x : Nat → Int} {k : Nat} {f : Option (Int × Int)} {W W' : World} (h : Rs w0 a b m A n c zs l x k f W) {y : Nat → Int} (h' : Blk W' (a + 2) (recC y).toArray 24) (hk : Kep (fun i => i = a + 2) W W') : Rs w0 a b m A n c zs l y k f W' :=
  ⟨h.at0, h.hb, h.hm, h.hA, h.rd.kep (ck hk) (by have := h.hb; omega) (fun _ => h.hA), h', h.r1.kep hk (by omega), h.r2.kep hk (by omega), h.fds.kep hk (fun i hi => by have := h.hb; have := h.hm; omega), Kep.bel h.bel hk (fun i hi => by have := h.at0; omega)⟩
/-- A cell of the field i's second closure. -/
theorem Rs.fld {w0 : World} {a b m : Nat} {A : Option Addr} {n c : Nat} {zs : List Int} {l : Nat} {x : Nat → Int} {k : Nat} {f : Option (Int × Int)} {W : World} (h : Rs w0 a b m A n c zs l x k f W) {c' : Nat} {v : Value} (hc : W.cell? ⟨c', 0, none⟩ = some v) {W' : World} (hk : Kep (fun i => i = b ∨ i = a + 2) W W') (hm : m ≤ c') : W'.cell? ⟨c', 0, none⟩ = some v :=
  cell_kep hc hk (by have := h.hb; have := h.hm; omega)
end Pm
end Go.Proofs.YtpohcdfmkcfonaaGreatDoor
