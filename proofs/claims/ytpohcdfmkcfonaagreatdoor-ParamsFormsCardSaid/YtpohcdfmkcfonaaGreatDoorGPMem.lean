/-
  Rows of cells in a block that is known whole, and results that lie in cells. No condition.
-/
import Derived.Test.YtpohcdfmkcfonaaGreatDoorGKMem
namespace Go.Proofs.YtpohcdfmkcfonaaGreatDoor
open Go.RowKit Go.Shelf
set_option linter.unusedVariables false
namespace Pm
open Kk

def putA (C : Array Value) (o : Nat) : List Value → Array Value
  | [] => C
  | v :: r => putA (C.setIfInBounds o v) (o + 1) r
theorem blk_setCells {b : Nat} {t : TypeId} : ∀ (vs : List Value) (o : Nat) (w : World) (C : Array Value), Blk w b C t → Blk (w.setCells b o vs) b (putA C o vs) t
  | [], _, _, _, h => h
  | v :: r, o, w, C, h => blk_setCells r (o + 1) (w.setCell ⟨b, o, none⟩ v) (C.setIfInBounds o v) (h.set o v)
theorem putA_mid : ∀ (vs mid pre post : List Value), mid.length = vs.length → putA (pre ++ (mid ++ post)).toArray pre.length vs = (pre ++ (vs ++ post)).toArray
  | [], mid, pre, post, h => by
    have : mid = [] := List.length_eq_zero_iff.1 h
    subst this
    rfl
  | v :: r, [], pre, post, h => by cases h
  | v :: r, m :: mid, pre, post, h => by
    have e : (pre ++ (m :: mid ++ post)).toArray.setIfInBounds pre.length v = ((pre ++ [v]) ++ (mid ++ post)).toArray := by
      rw [List.setIfInBounds_toArray, List.set_append_right _ _ (Nat.le_refl _), Nat.sub_self]
      simp
    show putA ((pre ++ (m :: mid ++ post)).toArray.setIfInBounds pre.length v) (pre.length + 1) r = _
    rw [e, show pre.length + 1 = (pre ++ [v]).length by simp, putA_mid r mid (pre ++ [v]) post (by simpa using h)]
    simp
/-- A row stored into the middle. -/
theorem bmid {w : World} {b : Nat} {t : TypeId} {pre mid post vs : List Value} (h : Blk w b (pre ++ (mid ++ post)).toArray t) (hl : mid.length = vs.length) : Blk (w.setCells b pre.length vs) b (pre ++ (vs ++ post)).toArray t := by
  have := blk_setCells vs pre.length w _ h
  rwa [putA_mid vs mid pre post hl] at this
theorem bwhole {w : World} {b : Nat} {t : TypeId} {C : Array Value} {vs : List Value} (h : Blk w b C t) (hl : C.size = vs.length) : Blk (w.setCells b 0 vs) b vs.toArray t := by
  have h2 : Blk w b ([] ++ (C.toList ++ [])).toArray t := by simpa using h
  have := bmid (vs := vs) h2 (by simpa using hl)
  simpa using this
theorem brange {w : World} {b : Nat} {t : TypeId} {pre mid post : List Value} (h : Blk w b (pre ++ (mid ++ post)).toArray t) : w.rangeAt b pre.length mid := fun j v hv => by
  have hj : j < mid.length := (List.getElem?_eq_some_iff.1 hv).1
  refine h.cell _ ?_
  rw [List.getElem?_toArray, List.getElem?_append_right (by omega), Nat.add_sub_cancel_left, List.getElem?_append_left hj]
  exact hv
theorem bthere {w : World} {b : Nat} {t : TypeId} {C : Array Value} (h : Blk w b C t) (o n : Nat) (hn : o + n ≤ C.size) : w.there b o n := fun j hj =>
  ⟨by rw [h.cell (o + j) (Array.getElem?_eq_getElem (by omega))]; rfl, h.frozen _⟩
theorem kep_setCells (b : Nat) : ∀ (vs : List Value) (o : Nat) (w : World), Kep (fun i => i = b) w (w.setCells b o vs) := by
  intro vs
  induction vs with
  | nil => intro o w; exact Kep.refl _ _
  | cons v vs ih => intro o w; exact (Kep.set_self (Kep.refl _ w) o v).trans (ih (o + 1) _)

theorem bel_setCells {w w' : World} (h : Bel w w') {g : Nat} (hg : w.heap.size ≤ g) (o : Nat) (vs : List Value) : Bel w (w'.setCells g o vs) := Kep.bel h (kep_setCells g vs o w') (fun i hi => by rw [hi]; exact hg)
theorem rngB {w : World} {b : Nat} {C : List Value} {t : TypeId} (h : Blk w b C.toArray t) : w.rangeAt b 0 C := fun j u hu => by
  rw [Nat.zero_add]
  exact h.cell j (by rw [List.getElem?_toArray]; exact hu)
theorem rng_bel {w w' : World} {b o : Nat} {Y : List Value} (h : w.rangeAt b o Y) (hb : Bel w w') : w'.rangeAt b o Y := fun i v hv =>
  (Below.cell (p := ⟨b, o + i, none⟩) hb (World.block_lt_of_cell? w _ (h i v hv))).trans (h i v hv)
theorem cell_bel {w w' : World} {b o : Nat} {v : Value} (h : w.cell? ⟨b, o, none⟩ = some v) (hb : Bel w w') : w'.cell? ⟨b, o, none⟩ = some v :=
  (Below.cell (p := ⟨b, o, none⟩) hb (World.block_lt_of_cell? w _ h)).trans h
theorem cell_kep {S : Nat → Prop} {w w' : World} {b o : Nat} {v : Value} (h : w.cell? ⟨b, o, none⟩ = some v) (hb : Kep S w w') (hs : ¬ S b) : w'.cell? ⟨b, o, none⟩ = some v := hb.cell hs h
theorem rng_kep {S : Nat → Prop} {w w' : World} {b o : Nat} {Y : List Value} (h : w.rangeAt b o Y) (hb : Kep S w w') (hs : ¬ S b) : w'.rangeAt b o Y := fun i v hv => hb.cell hs (h i v hv)
theorem res_c {fn : Func} {p : Tmp} {tp : TypeId} (h : fn.results = #[.cell p tp]) (tmps : Array Value) (w : World) (a : Addr) (X : Value)
    (hp : tmps.getD p undef = .pointer (some a)) (hX : (loadVar tp a).run Tryz.prog w = .ok X w) : (results fn tmps).run Tryz.prog w = .ok X w := by
  have hp' : tmps[p]?.getD undef = .pointer (some a) := by simpa using hp
  simp [results, h, hp', asAddr, hX]
theorem res_ci {fn : Func} {p q : Tmp} {tp : TypeId} (h : fn.results = #[.cell p tp, .tmp q]) (tmps : Array Value) (w : World) (a : Addr) (X Y : Value)
    (hp : tmps.getD p undef = .pointer (some a)) (hq : tmps.getD q undef = Y) (hX : (loadVar tp a).run Tryz.prog w = .ok X w) : (results fn tmps).run Tryz.prog w = .ok (.tuple #[X, Y]) w := by
  have hp' : tmps[p]?.getD undef = .pointer (some a) := by simpa using hp
  have hq' : tmps[q]?.getD undef = Y := by simpa using hq
  simp [results, h, hp', hq', asAddr, hX]
theorem res_cc {fn : Func} {p q : Tmp} {tp tq : TypeId} (h : fn.results = #[.cell p tp, .cell q tq]) (tmps : Array Value) (w : World) (a c : Addr) (X Y : Value)
    (hp : tmps.getD p undef = .pointer (some a)) (hq : tmps.getD q undef = .pointer (some c)) (hX : (loadVar tp a).run Tryz.prog w = .ok X w) (hY : (loadVar tq c).run Tryz.prog w = .ok Y w) :
    (results fn tmps).run Tryz.prog w = .ok (.tuple #[X, Y]) w := by
  have hp' : tmps[p]?.getD undef = .pointer (some a) := by simpa using hp
  have hq' : tmps[q]?.getD undef = .pointer (some c) := by simpa using hq
  simp [results, h, hp', hq', asAddr, hX, hY]
theorem load_b {w : World} {b : Nat} {C : List Value} {t : TypeId} (h : Blk w b C.toArray t) {d : TypeDesc} (hu : Tryz.prog.underlying t = some d) (hd : d.isRow = true) (hi : (Tryz.prog.info? t).map (·.size) = some C.length) :
    (loadVar t ⟨b, 0, none⟩).run Tryz.prog w = .ok (.agg C.toArray) w := run_loadVar_mid (P := Tryz.prog) _ _ _ t C _ (rngB h) hu hd hi
end Pm
end Go.Proofs.YtpohcdfmkcfonaaGreatDoor
