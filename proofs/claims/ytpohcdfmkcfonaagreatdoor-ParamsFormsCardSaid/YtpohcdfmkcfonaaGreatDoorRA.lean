/-
  Texts of this claim, put together: Reader, Reader2, Reader3, Reader4, Reader5, Reader6. What each one says, and under which conditions, stands ahead of it.
-/
import Derived.Deep.RegionWith
import Derived.Deep.RegionHeld3
import Derived.Deep.DeepCutAuto
import Derived.Test.YtpohcdfmkcfonaaGreatDoorWA

section
/-
  What a reader answers in this program: its state, its place, what is left, its end; what U reads.
  Conditions: the reader is one that NewReader made of at most 10^6 bytes.
-/
namespace Go.Proofs.YtpohcdfmkcfonaaGreatDoor
open Go.RowKit Go.Shelf
set_option linter.unusedVariables false
namespace Cd

/-- A reader: where it lies, its bytes, its place, its fault's place. -/
structure RSt (w : World) (b : Nat) (A : Option Addr) (n c : Nat) (zs : List Int) (k : Nat) (F : Option Addr) : Prop where
  blk : Blk w b #[.pointer (some ⟨b, 0, none⟩), .slice A n c, .int .i64 (k : Int), .pointer F] 109
  sl : Sl w A n c zs
  len : n ≤ 1000000
  bytes : Bytes zs
  le : k ≤ n
  apart : ∀ x : Addr, A = some x → x.block ≠ b
/-- Its fault: none, or an error and a place. -/
def Flt (w : World) (b : Nat) (F : Option Addr) (f : Option (Int × Int)) : Prop :=
  (f = none ∧ F = none) ∨ (∃ e p fb, f = some (e, p) ∧ F = some ⟨fb, 0, none⟩ ∧ fb ≠ b ∧ Blk w fb #[.int .i64 e, .int .i64 p] 34 ∧ e ≠ 0)
def RS (w : World) (b : Nat) (zs : List Int) (k : Nat) (f : Option (Int × Int)) : Prop := ∃ A n c F, RSt w b A n c zs k F ∧ Flt w b F f

theorem RSt.kep {S : Nat → Prop} {w w' : World} {b : Nat} {A : Option Addr} {n c : Nat} {zs : List Int} {k : Nat} {F : Option Addr} (h : RSt w b A n c zs k F) (hk : Kep S w w') (h1 : ¬ S b) (h2 : ∀ x : Addr, A = some x → ¬ S x.block) : RSt w' b A n c zs k F :=
  ⟨h.blk.kep hk h1, ⟨hk.ints h2 h.sl.ints, h.sl.cap, h.sl.nil⟩, h.len, h.bytes, h.le, h.apart⟩
theorem RSt.bel {w w' : World} {b : Nat} {A : Option Addr} {n c : Nat} {zs : List Int} {k : Nat} {F : Option Addr} (h : RSt w b A n c zs k F) (hk : Bel w w') : RSt w' b A n c zs k F :=
  ⟨h.blk.bel hk, h.sl.bel hk, h.len, h.bytes, h.le, h.apart⟩
theorem Flt.bel {w w' : World} {b : Nat} {F : Option Addr} {f : Option (Int × Int)} (h : Flt w b F f) (hk : Bel w w') : Flt w' b F f := by
  rcases h with h | ⟨e, p, fb, h1, h2, h3, h4, h5⟩
  · exact .inl h
  · exact .inr ⟨e, p, fb, h1, h2, h3, h4.bel hk, h5⟩
theorem RS.bel {w w' : World} {b : Nat} {zs : List Int} {k : Nat} {f : Option (Int × Int)} (h : RS w b zs k f) (hk : Bel w w') : RS w' b zs k f := by
  obtain ⟨A, n, c, F, h1, h2⟩ := h
  exact ⟨A, n, c, F, h1.bel hk, h2.bel hk⟩
/-- The place moved on. -/
theorem RSt.move {w : World} {b : Nat} {A : Option Addr} {n c : Nat} {zs : List Int} {k : Nat} {F : Option Addr} (h : RSt w b A n c zs k F) {k' : Nat} (hk : k' ≤ n) : RSt (w.setCell ⟨b, 2, none⟩ (.int .i64 (k' : Int))) b A n c zs k' F :=
  ⟨h.blk.set 2 _, ⟨(Kep.set (S := fun i => i = b) (Kep.refl _ w) (b := b) (o := 2) rfl _).ints h.apart h.sl.ints, h.sl.cap, h.sl.nil⟩, h.len, h.bytes, hk, h.apart⟩
/-- A fault laid. -/
theorem RSt.fault {w : World} {b : Nat} {A : Option Addr} {n c : Nat} {zs : List Int} {k : Nat} {F : Option Addr} (h : RSt w b A n c zs k F) (G : Option Addr) : RSt (w.setCell ⟨b, 3, none⟩ (.pointer G)) b A n c zs k G :=
  ⟨h.blk.set 3 _, ⟨(Kep.set (S := fun i => i = b) (Kep.refl _ w) (b := b) (o := 3) rfl _).ints h.apart h.sl.ints, h.sl.cap, h.sl.nil⟩, h.len, h.bytes, h.le, h.apart⟩

theorem rneq (a : Addr) (w : World) : (binOp .neq 78 (.pointer (some a)) (.pointer (some a))).run Tryz.prog w = .ok (.bool false) w :=
  neq_self _ 109 a 4 Tryz.underlying78 (fun w => Tryz.sizeOf109 w) (by decide)

theorem newReader (A : Option Addr) (n c : Nat) (zs : List Int) (w : World) (hs : Sl w A n c zs) (hn : n ≤ 1000000) (hb : Bytes zs) :
    Calls Tryz.prog 36 #[.slice A n c] w fun e w' => ∃ b A' c', e = .returned (.pointer (some ⟨b, 0, none⟩)) ∧ w.heap.size ≤ b ∧ RSt w' b A' n c' zs 0 none ∧ (∀ x : Addr, A' = some x → w.heap.size ≤ x.block) ∧ Bel w w' := by
  have CL := Lib.hid (clone A n c zs w hs (by omega))
  have hl := hs.len
  clear hs
  go_enter Tryz.func36, Tryz.ntmps36
  go_wp2_with fail
  refine (CL.out).mono ?_
  rintro e w1 ⟨u, rfl, hu⟩
  obtain ⟨A', c', hv, hs'⟩ := hu.sl
  subst hv
  have b1 : Bel w w1 := hu.2
  have HS := Lib.hid hs'
  have HA : Hid (∀ x : Addr, A' = some x → w.heap.size ≤ x.block ∧ x.block < w1.heap.size) := by rintro x rfl; exact hu.1.lt _ rfl
  clear hs' hu
  have hlt1 : w.heap.size ≤ w1.heap.size := Below.size b1
  go_wp2
  go_ret
  refine ⟨w1.heap.size, A', c', rfl, hlt1, ⟨Blk.new _ _ _, ?_, hn, hb, Nat.zero_le _, fun x hx => by have := HA.out x hx; omega⟩, fun x hx => (HA.out x hx).1, b1.alloc _⟩
  have h := HS.out
  rw [hl] at h
  exact h.bel ((Bel.refl _).alloc _)

set_option maxRecDepth 100000 in
theorem trouble (b : Nat) (A : Option Addr) (n c : Nat) (zs : List Int) (k : Nat) (F : Option Addr) (w : World) (h : RSt w b A n c zs k F) :
    Calls Tryz.prog 60 #[.pointer (some ⟨b, 0, none⟩)] w fun e w' => e = .returned (.pointer F) ∧ w = w' := by
  have c0 : w.cell? ⟨b, 0, none⟩ = some (.pointer (some ⟨b, 0, none⟩)) := h.blk.cell 0 rfl
  have c3 : w.cell? ⟨b, 3, none⟩ = some (.pointer F) := h.blk.cell 3 rfl
  have hq := rneq ⟨b, 0, none⟩
  clear h
  go_enter Tryz.func60, Tryz.ntmps60
  go_wp2
  go_ret
  exact ⟨rfl, rfl⟩

set_option maxRecDepth 100000 in
theorem rat_none (b : Nat) (A : Option Addr) (n c : Nat) (zs : List Int) (k : Nat) (w : World) (h : RSt w b A n c zs k none) :
    Calls Tryz.prog 37 #[.pointer (some ⟨b, 0, none⟩)] w fun e w' => e = .returned (.int .i64 (k : Int)) ∧ w = w' := by
  have T := Lib.hid (trouble b A n c zs k none w h)
  have c2 : w.cell? ⟨b, 2, none⟩ = some (.int .i64 (k : Int)) := h.blk.cell 2 rfl
  clear h
  go_enter Tryz.func37, Tryz.ntmps37
  go_wp2_with (go_at_call 60; refine (T.out).mono ?_; rintro e w' ⟨rfl, rfl⟩)
  go_ret
  exact ⟨rfl, rfl⟩
set_option maxRecDepth 100000 in
theorem rat_some (b : Nat) (A : Option Addr) (n c : Nat) (zs : List Int) (k fb : Nat) (e p : Int) (w : World) (h : RSt w b A n c zs k (some ⟨fb, 0, none⟩)) (hf : Blk w fb #[.int .i64 e, .int .i64 p] 34) :
    Calls Tryz.prog 37 #[.pointer (some ⟨b, 0, none⟩)] w fun r w' => r = .returned (.int .i64 p) ∧ w = w' := by
  have T := Lib.hid (trouble b A n c zs k _ w h)
  have c2 : w.cell? ⟨fb, 1, none⟩ = some (.int .i64 p) := hf.cell 1 rfl
  clear h hf
  go_enter Tryz.func37, Tryz.ntmps37
  go_wp2_with (go_at_call 60; refine (T.out).mono ?_; rintro e w' ⟨rfl, rfl⟩)
  go_ret
  exact ⟨rfl, rfl⟩

set_option maxRecDepth 100000 in
theorem rleft_none (b : Nat) (A : Option Addr) (n c : Nat) (zs : List Int) (k : Nat) (w : World) (h : RSt w b A n c zs k none) :
    Calls Tryz.prog 64 #[.pointer (some ⟨b, 0, none⟩)] w fun e w' => e = .returned (.int .i64 ((n : Int) - (k : Int))) ∧ Bel w w' := by
  have T := Lib.hid (trouble b A n c zs k none w h)
  have c1 : w.cell? ⟨b, 1, none⟩ = some (.slice A n c) := h.blk.cell 1 rfl
  have c2 : w.cell? ⟨b, 2, none⟩ = some (.int .i64 (k : Int)) := h.blk.cell 2 rfl
  have h1 := h.len
  have h2 := h.le
  clear h
  go_enter Tryz.func64, Tryz.ntmps64
  go_wp2_with (go_at_call 60; refine (T.out).mono ?_; rintro e w' ⟨rfl, rfl⟩)
  have e1 : IntKind.i64.wrap ((n : Int) - (k : Int)) = (n : Int) - (k : Int) := IntWalk.i64_in _ (by omega)
  go_region
  all_goals
    go_wp2
    go_ret
    exact ⟨rfl, (Bel.refl _).drew⟩
set_option maxRecDepth 100000 in
theorem rleft_some (b : Nat) (A : Option Addr) (n c : Nat) (zs : List Int) (k : Nat) (x : Addr) (w : World) (h : RSt w b A n c zs k (some x)) :
    Calls Tryz.prog 64 #[.pointer (some ⟨b, 0, none⟩)] w fun e w' => e = .returned (.int .i64 0) ∧ w = w' := by
  have T := Lib.hid (trouble b A n c zs k _ w h)
  clear h
  go_enter Tryz.func64, Tryz.ntmps64
  go_wp2_with (go_at_call 60; refine (T.out).mono ?_; rintro e w' ⟨rfl, rfl⟩)
  go_ret
  exact ⟨rfl, rfl⟩

set_option maxRecDepth 100000 in
theorem rend_some (b : Nat) (A : Option Addr) (n c : Nat) (zs : List Int) (k fb : Nat) (e p : Int) (w : World) (h : RSt w b A n c zs k (some ⟨fb, 0, none⟩)) (hf : Blk w fb #[.int .i64 e, .int .i64 p] 34) :
    Calls Tryz.prog 40 #[.pointer (some ⟨b, 0, none⟩)] w fun r w' => r = .returned (.agg #[.int .i64 e, .int .i64 p]) ∧ Bel w w' := by
  have T := Lib.hid (fun w' (hw : Bel w w') => trouble b A n c zs k _ w' (h.bel hw))
  have hw : Bel w (w.alloc (.cells #[.int .i64 0, .int .i64 0] 34)) := (Bel.refl w).alloc _
  have c1 : (w.alloc (.cells #[.int .i64 0, .int .i64 0] 34)).cell? ⟨fb, 0, none⟩ = some (.int .i64 e) := (hf.bel hw).cell 0 rfl
  have c2 : (w.alloc (.cells #[.int .i64 0, .int .i64 0] 34)).cell? ⟨fb, 1, none⟩ = some (.int .i64 p) := (hf.bel hw).cell 1 rfl
  have HW := Lib.hid hw
  clear h hf hw
  go_enter Tryz.func40, Tryz.ntmps40
  go_wp2_with (go_at_call 60; refine (T.out _ HW.out).mono ?_; rintro e w' ⟨rfl, rfl⟩)
  refine bodyPost_ret (v := .agg #[.int .i64 e, .int .i64 p]) (by simp [results, Tryz.results40, go_sem]) rfl ⟨rfl, ?_⟩
  exact (Bel.refl _).alloc _
set_option maxRecDepth 100000 in
theorem rend_none (b : Nat) (A : Option Addr) (n c : Nat) (zs : List Int) (k : Nat) (w : World) (h : RSt w b A n c zs k none) :
    Calls Tryz.prog 40 #[.pointer (some ⟨b, 0, none⟩)] w fun r w' => r = .returned (if k < n then .agg #[.int .i64 4, .int .i64 (k : Int)] else .agg #[.int .i64 0, .int .i64 0]) ∧ Bel w w' := by
  have T := Lib.hid (fun w' (hw : Bel w w') => trouble b A n c zs k _ w' (h.bel hw))
  have LF := Lib.hid (fun w' (hw : Bel w w') => rleft_none b A n c zs k w' (h.bel hw))
  have HR := Lib.hid h
  have hw : Bel w (w.alloc (.cells #[.int .i64 0, .int .i64 0] 34)) := (Bel.refl w).alloc _
  have HW := Lib.hid hw
  have h1 := h.le
  have h2 := h.len
  clear h hw
  by_cases hlt : k < n
  · rw [if_pos hlt]
    have hd : (0 : Int) < (n : Int) - (k : Int) := by omega
    go_enter Tryz.func40, Tryz.ntmps40
    go_wp2_with fail
    refine (T.out _ HW.out).mono ?_
    rintro e w' ⟨rfl, rfl⟩
    go_wp2_with fail
    refine (LF.out _ HW.out).mono ?_
    rintro e w2 ⟨rfl, hb2⟩
    have c2 : w2.cell? ⟨b, 2, none⟩ = some (.int .i64 (k : Int)) := (HR.out.blk.bel (HW.out.trans hb2)).cell 2 rfl
    have d0 : w2.cell? ⟨w.heap.size, 0, none⟩ = some (.int .i64 0) := (Below.cell (p := ⟨w.heap.size, 0, none⟩) hb2 (by simp)).trans (by simp)
    have d1 : w2.cell? ⟨w.heap.size, 1, none⟩ = some (.int .i64 0) := (Below.cell (p := ⟨w.heap.size, 1, none⟩) hb2 (by simp)).trans (by simp)
    have f0 : w2.frozen? ⟨w.heap.size, 0, none⟩ = false := (Below.frozen (p := ⟨w.heap.size, 0, none⟩) hb2 (by simp)).trans (by simp)
    have f1 : w2.frozen? ⟨w.heap.size, 1, none⟩ = false := (Below.frozen (p := ⟨w.heap.size, 1, none⟩) hb2 (by simp)).trans (by simp)
    have hb3 : Bel w w2 := HW.out.trans hb2
    clear hb2
    go_wp2
    refine bodyPost_ret (v := .agg #[.int .i64 4, .int .i64 (k : Int)]) (by simp [results, Tryz.results40, go_sem, d0, d1]) rfl ⟨rfl, ?_⟩
    exact (hb3.set (Nat.le_refl _) _).set (Nat.le_refl _) _
  · rw [if_neg hlt]
    have hd : (n : Int) - (k : Int) ≤ 0 := by omega
    go_enter Tryz.func40, Tryz.ntmps40
    go_wp2_with fail
    refine (T.out _ HW.out).mono ?_
    rintro e w' ⟨rfl, rfl⟩
    go_wp2_with fail
    refine (LF.out _ HW.out).mono ?_
    rintro e w2 ⟨rfl, hb2⟩
    have d0 : w2.cell? ⟨w.heap.size, 0, none⟩ = some (.int .i64 0) := (Below.cell (p := ⟨w.heap.size, 0, none⟩) hb2 (by simp)).trans (by simp)
    have d1 : w2.cell? ⟨w.heap.size, 1, none⟩ = some (.int .i64 0) := (Below.cell (p := ⟨w.heap.size, 1, none⟩) hb2 (by simp)).trans (by simp)
    have f0 : w2.frozen? ⟨w.heap.size, 0, none⟩ = false := (Below.frozen (p := ⟨w.heap.size, 0, none⟩) hb2 (by simp)).trans (by simp)
    have f1 : w2.frozen? ⟨w.heap.size, 1, none⟩ = false := (Below.frozen (p := ⟨w.heap.size, 1, none⟩) hb2 (by simp)).trans (by simp)
    have hb3 : Bel w w2 := HW.out.trans hb2
    clear hb2
    go_wp2
    refine bodyPost_ret (v := .agg #[.int .i64 0, .int .i64 0]) (by simp [results, Tryz.results40, go_sem, d0, d1]) rfl ⟨rfl, ?_⟩
    exact (hb3.set (Nat.le_refl _) _).set (Nat.le_refl _) _

/-- What the end of a reader tells. -/
def endOf (n k : Nat) (f : Option (Int × Int)) : Int × Int :=
  match f with
  | some p => p
  | none => if k < n then (4, (k : Int)) else (0, 0)
def atOf (k : Nat) (f : Option (Int × Int)) : Int :=
  match f with
  | some p => p.2
  | none => k
def leftOf (n k : Nat) (f : Option (Int × Int)) : Int :=
  match f with
  | some _ => 0
  | none => (n : Int) - k
abbrev fault (p : Int × Int) : Value := .agg #[.int .i64 p.1, .int .i64 p.2]

theorem rAt (b : Nat) (zs : List Int) (k : Nat) (f : Option (Int × Int)) (w : World) (h : RS w b zs k f) :
    Calls Tryz.prog 37 #[.pointer (some ⟨b, 0, none⟩)] w fun e w' => e = .returned (.int .i64 (atOf k f)) ∧ w = w' := by
  obtain ⟨A, n, c, F, h, ⟨rfl, rfl⟩ | ⟨e, p, fb, rfl, rfl, h3, h4, h5⟩⟩ := h
  · exact rat_none b A n c zs k w h
  · exact rat_some b A n c zs k fb e p w h h4
theorem rLeft (b : Nat) (zs : List Int) (k : Nat) (f : Option (Int × Int)) (w : World) (h : RS w b zs k f) :
    Calls Tryz.prog 64 #[.pointer (some ⟨b, 0, none⟩)] w fun e w' => e = .returned (.int .i64 (leftOf zs.length k f)) ∧ Bel w w' := by
  obtain ⟨A, n, c, F, h, ⟨rfl, rfl⟩ | ⟨e, p, fb, rfl, rfl, h3, h4, h5⟩⟩ := h
  · have hl := h.sl.len
    subst hl
    exact rleft_none b A _ c zs k w h
  · exact (rleft_some b A n c zs k _ w h).mono fun e w' h => ⟨h.1, by rw [h.2]; exact Bel.refl _⟩
theorem rEnd (b : Nat) (zs : List Int) (k : Nat) (f : Option (Int × Int)) (w : World) (h : RS w b zs k f) :
    Calls Tryz.prog 40 #[.pointer (some ⟨b, 0, none⟩)] w fun e w' => e = .returned (fault (endOf zs.length k f)) ∧ Bel w w' := by
  obtain ⟨A, n, c, F, h, ⟨rfl, rfl⟩ | ⟨e, p, fb, rfl, rfl, h3, h4, h5⟩⟩ := h
  · have hl := h.sl.len
    subst hl
    refine (rend_none b A _ c zs k w h).mono fun e w' h => ⟨h.1.trans ?_, h.2⟩
    unfold endOf
    split <;> rfl
  · exact rend_some b A n c zs k fb e p w h h4
end Cd
end Go.Proofs.YtpohcdfmkcfonaaGreatDoor
end

section
/-
  What U of a reader answers in this program.
  Conditions: the reader is one that NewReader made of at most 10^6 bytes.
-/
namespace Go.Proofs.YtpohcdfmkcfonaaGreatDoor
open Go.RowKit Go.Shelf
set_option linter.unusedVariables false
namespace Cd

/-- How a reader moves on behind an item: where the item ends, or its fault. -/
def Moves (k : Nat) (tl e bad : Int) (k' : Nat) (f' : Option (Int × Int)) : Prop := (e = 0 ∧ (k' : Int) = tl ∧ f' = none) ∨ (e ≠ 0 ∧ k' = k ∧ f' = some (e, bad))

theorem laid (w : World) (t : TypeId) : ∀ w1, Bel (w.alloc (.cells #[.int .i64 0, .int .i64 0] t)).drew w1 → w1.cell? ⟨w.heap.size, 0, none⟩ = some (.int .i64 0) ∧ w1.cell? ⟨w.heap.size, 1, none⟩ = some (.int .i64 0) ∧ w1.frozen? ⟨w.heap.size, 0, none⟩ = false ∧ w1.frozen? ⟨w.heap.size, 1, none⟩ = false ∧ Hid (Blk w1 w.heap.size #[.int .i64 0, .int .i64 0] t) := by
  intro w1 hb
  have h := (Blk.new w #[.int .i64 0, .int .i64 0] t).bel (((Bel.refl _).drew).trans hb)
  exact ⟨h.cell 0 rfl, h.cell 1 rfl, h.frozen 0, h.frozen 1, h⟩

end Cd
end Go.Proofs.YtpohcdfmkcfonaaGreatDoor
end

section
/-
  What N of a reader answers in this program.
  Conditions: the reader is one that NewReader made of at most 10^6 bytes.
-/
namespace Go.Proofs.YtpohcdfmkcfonaaGreatDoor
open Go.RowKit Go.Shelf
set_option linter.unusedVariables false
namespace Cd

/-- What N tells: the number, the place behind it, or a fault. -/
def NWay (zs : List Int) (k : Nat) (least most x tl e bad : Int) : Prop :=
  ∃ x0 t0 e0 b0, Way zs k x0 t0 e0 b0 ∧ 0 ≤ x0 ∧ x0 ≤ 18446744073709551615 ∧ ((e0 ≠ 0 ∧ x = 0 ∧ tl = 0 ∧ e = e0 ∧ bad = b0) ∨ (e0 = 0 ∧ (x0 < least ∨ most < x0) ∧ x = 0 ∧ tl = 0 ∧ e = 3 ∧ bad = k) ∨ (e0 = 0 ∧ least ≤ x0 ∧ x0 ≤ most ∧ x = x0 ∧ tl = t0 ∧ e = 0 ∧ bad = 0))
abbrev gotI (x tl e bad : Int) : Value := .tuple #[.int .i64 x, .int .i64 tl, .agg #[.int .i64 e, .int .i64 bad]]

set_option maxRecDepth 100000 in
set_option maxHeartbeats 1000000 in
theorem n1 (A : Option Addr) (n c : Nat) (zs : List Int) (k : Nat) (least most x tl e bad : Int) (p q : Nat) (w : World) (hs : Sl w A n c zs) (hn : n ≤ 1000000) (hb : Bytes zs) (hw : NWay zs k least most x tl e bad)
    (hp : w.cell? ⟨p, 0, none⟩ = some (.int .i64 least)) (hq : w.cell? ⟨q, 0, none⟩ = some (.int .i64 most)) (hm : most ≤ 9223372036854775807) :
    Calls Tryz.prog 62 #[.slice A n c, .int .i64 (k : Int), .pointer (some ⟨p, 0, none⟩), .pointer (some ⟨q, 0, none⟩)] w fun r w' => r = .returned (gotI x tl e bad) ∧ Bel w w' := by
  obtain ⟨x0, t0, e0, b0, hw0, h0, h1, hcs⟩ := hw
  have G := Lib.hid (fun w' (hw : Bel w w') => get A n c zs k x0 t0 e0 b0 w' (hs.bel hw).ints (by omega) hb hs.cap hw0)
  have HP := Lib.hid hp
  have HQ := Lib.hid hq
  clear hs hb hw0 hp hq
  rcases hcs with ⟨he, rfl, rfl, rfl, rfl⟩ | ⟨rfl, hx, rfl, rfl, rfl, rfl⟩ | ⟨rfl, hx1, hx2, rfl, rfl, rfl, rfl⟩
  · have fe : (e != 0) = true := by rw [bne_iff_ne]; exact he
    clear he
    go_enter Tryz.func62, Tryz.ntmps62
    go_wp2_with fail
    refine (G.out _ ((Bel.refl _).alloc _)).mono ?_
    rintro r w1 ⟨rfl, hb1⟩
    have hbel : Bel w w1 := ((Bel.refl w).alloc _).trans hb1
    have B0 := (Blk.new w #[.int .i64 0, .int .i64 0] 34).bel hb1
    have d0 : w1.cell? ⟨w.heap.size, 0, none⟩ = some (.int .i64 0) := B0.cell 0 rfl
    have d1 : w1.cell? ⟨w.heap.size, 1, none⟩ = some (.int .i64 0) := B0.cell 1 rfl
    have d2 := B0.frozen 0
    have d3 := B0.frozen 1
    have hsz : w.heap.size < w1.heap.size := by have := Below.size hb1; simp at this; omega
    clear hb1 B0
    go_wp2_with fail
    go_region
    go_wp2
    refine bodyPost_ret (v := gotI 0 0 e bad) (by simp [results, Tryz.results62, go_sem, d0, d1, hsz]) rfl ⟨rfl, ?_⟩
    first
      | exact ((hbel.set (Nat.le_refl _) _).set (Nat.le_refl _) _).alloc _
      | exact (((hbel.set (Nat.le_refl _) _).set (Nat.le_refl _) _).alloc _).drew
  · have hcs : decide ((9223372036854775807 : Int) < x0) = true ∨ (x0 ≤ 9223372036854775807 ∧ decide (x0 < least) = true) ∨ (x0 ≤ 9223372036854775807 ∧ decide (x0 < least) = false ∧ decide (most < x0) = true) := by
      rcases Int.lt_or_le 9223372036854775807 x0 with h | h
      · exact .inl (decide_eq_true h)
      · rcases Int.lt_or_le x0 least with h' | h'
        · exact .inr (.inl ⟨h, decide_eq_true h'⟩)
        · exact .inr (.inr ⟨h, decide_eq_false (by omega), decide_eq_true (by omega)⟩)
    clear hx
    go_enter Tryz.func62, Tryz.ntmps62
    go_wp2_with fail
    refine (G.out _ ((Bel.refl _).alloc _)).mono ?_
    rintro r w1 ⟨rfl, hb1⟩
    have hbel : Bel w w1 := ((Bel.refl w).alloc _).trans hb1
    have B0 := (Blk.new w #[.int .i64 0, .int .i64 0] 34).bel hb1
    have d0 : w1.cell? ⟨w.heap.size, 0, none⟩ = some (.int .i64 0) := B0.cell 0 rfl
    have d1 : w1.cell? ⟨w.heap.size, 1, none⟩ = some (.int .i64 0) := B0.cell 1 rfl
    have d2 := B0.frozen 0
    have d3 := B0.frozen 1
    have hsz : w.heap.size < w1.heap.size := by have := Below.size hb1; simp at this; omega
    have k1 : w1.cell? ⟨p, 0, none⟩ = some (.int .i64 least) := (Kep.of_bel (S := fun _ => False) hbel).cell id HP.out
    have k2 : w1.cell? ⟨q, 0, none⟩ = some (.int .i64 most) := (Kep.of_bel (S := fun _ => False) hbel).cell id HQ.out
    have l1 : p < w1.heap.size := World.block_lt_of_cell? w1 ⟨p, 0, none⟩ k1
    have l2 : q < w1.heap.size := World.block_lt_of_cell? w1 ⟨q, 0, none⟩ k2
    clear hb1 B0
    rcases hcs with f1 | ⟨f0, f1⟩ | ⟨f0, f1, f2⟩
    all_goals
      go_wp2
      refine bodyPost_ret (v := gotI 0 0 3 k) (by simp [results, Tryz.results62, go_sem, d0, d1, hsz]) rfl ⟨rfl, ?_⟩
      first
        | exact ((hbel.set (Nat.le_refl _) _).set (Nat.le_refl _) _).alloc _
        | exact (((hbel.set (Nat.le_refl _) _).set (Nat.le_refl _) _).alloc _).drew
  · have f0 : x ≤ 9223372036854775807 := by omega
    have f1 : decide (x < least) = false := decide_eq_false (by omega)
    have f2 : decide (most < x) = false := decide_eq_false (by omega)
    clear hx1 hx2
    go_enter Tryz.func62, Tryz.ntmps62
    go_wp2_with fail
    refine (G.out _ ((Bel.refl _).alloc _)).mono ?_
    rintro r w1 ⟨rfl, hb1⟩
    have hbel : Bel w w1 := ((Bel.refl w).alloc _).trans hb1
    have B0 := (Blk.new w #[.int .i64 0, .int .i64 0] 34).bel hb1
    have d0 : w1.cell? ⟨w.heap.size, 0, none⟩ = some (.int .i64 0) := B0.cell 0 rfl
    have d1 : w1.cell? ⟨w.heap.size, 1, none⟩ = some (.int .i64 0) := B0.cell 1 rfl
    have d2 := B0.frozen 0
    have d3 := B0.frozen 1
    have hsz : w.heap.size < w1.heap.size := by have := Below.size hb1; simp at this; omega
    have k1 : w1.cell? ⟨p, 0, none⟩ = some (.int .i64 least) := (Kep.of_bel (S := fun _ => False) hbel).cell id HP.out
    have k2 : w1.cell? ⟨q, 0, none⟩ = some (.int .i64 most) := (Kep.of_bel (S := fun _ => False) hbel).cell id HQ.out
    have l1 : p < w1.heap.size := World.block_lt_of_cell? w1 ⟨p, 0, none⟩ k1
    have l2 : q < w1.heap.size := World.block_lt_of_cell? w1 ⟨q, 0, none⟩ k2
    clear hb1 B0
    go_wp2
    refine bodyPost_ret (v := gotI x tl 0 0) (by simp [results, Tryz.results62, go_sem, d0, d1, hsz]) rfl ⟨rfl, ?_⟩
    first
      | exact ((hbel.set (Nat.le_refl _) _).set (Nat.le_refl _) _).alloc _
      | exact (((hbel.set (Nat.le_refl _) _).set (Nat.le_refl _) _).alloc _).drew

set_option maxRecDepth 100000 in
set_option maxHeartbeats 1000000 in
theorem itemN_fault (b : Nat) (A : Option Addr) (n c : Nat) (zs : List Int) (k : Nat) (x : Addr) (fn : Value) (w : World) (h : RSt w b A n c zs k (some x)) :
    Calls Tryz.prog 61 #[.pointer (some ⟨b, 0, none⟩), fn] w fun e w' => e = .returned (.int .i64 0) ∧ w = w' := by
  have T := Lib.hid (trouble b A n c zs k _ w h)
  clear h
  go_enter Tryz.func61, Tryz.ntmps61
  go_wp2_with (go_at_call 60; refine (T.out).mono ?_; rintro e w' ⟨rfl, rfl⟩)
  go_ret
  exact ⟨rfl, rfl⟩

set_option maxRecDepth 100000 in
set_option maxHeartbeats 1000000 in
theorem itemN (b : Nat) (A : Option Addr) (n c : Nat) (zs : List Int) (k : Nat) (x tl e bad : Int) (k' : Nat) (f' : Option (Int × Int)) (w : World) (h : RSt w b A n c zs k none) (p q : Addr) (hG : ∀ w', Bel w w' → Calls Tryz.prog 62 #[.slice A n c, .int .i64 (k : Int), .pointer (some p), .pointer (some q)] w' fun r w1 => r = .returned (gotI x tl e bad) ∧ Bel w' w1) (hm : Moves k tl e bad k' f') (hk' : k' ≤ n) (hx : e ≠ 0 → x = 0) :
    Calls Tryz.prog 61 #[.pointer (some ⟨b, 0, none⟩), .func (.func 62) #[] #[.pointer (some p), .pointer (some q)]] w fun r w' => r = .returned (.int .i64 x) ∧ RS w' b zs k' f' ∧ Kep (fun i => i = b) w w' := by
  have T := Lib.hid (trouble b A n c zs k none w h)
  have H := Lib.hid h
  have G := Lib.hid (fun w' (hb : Bel w w') => (hG w' hb).mono (R' := fun r w1 => r = .returned (gotI x tl e bad) ∧ Bel w' w1 ∧ w1.cell? ⟨b, 1, none⟩ = some (.slice A n c) ∧ w1.cell? ⟨b, 2, none⟩ = some (.int .i64 (k : Int))) fun r w1 hr => ⟨hr.1, hr.2, (h.blk.bel (hb.trans hr.2)).cell 1 rfl, (h.blk.bel (hb.trans hr.2)).cell 2 rfl⟩)
  have c1 : w.cell? ⟨b, 1, none⟩ = some (.slice A n c) := h.blk.cell 1 rfl
  have c2 : w.cell? ⟨b, 2, none⟩ = some (.int .i64 (k : Int)) := h.blk.cell 2 rfl
  have n1 := World.new_ne w _ c1
  have D := Lib.hid (laid w 34)
  clear h hG
  go_enter Tryz.func61, Tryz.ntmps61
  go_upto_region 2 with (go_at_call 60; refine (T.out).mono ?_; rintro e w' ⟨rfl, rfl⟩)
  go_cut [5, 6, 7] (fun s5 s6 s7 wx => ∃ g : Nat, s5 = .int .i64 x ∧ s6 = .int .i64 tl ∧ s7 = .pointer (some ⟨g, 0, none⟩) ∧ w.heap.size ≤ g ∧ Blk wx g #[.int .i64 e, .int .i64 bad] 34 ∧ Bel w wx)
  case first =>
    go_region_held3 (fun w' => w'.cell? ⟨b, 1, none⟩ = some (.slice A n c) ∧ w'.cell? ⟨b, 2, none⟩ = some (.int .i64 (k : Int))) (go_keep)
      (first | (go_at_call 62; first | (refine (G.out _ ?_).mono ?_; exact ((Bel.refl _).alloc _).drew; rintro r w1 ⟨rfl, hb1, k1, k2⟩; obtain ⟨d0, d1, d2, d3, dB⟩ := D.out w1 hb1; have hb2 : Bel w w1 := (((Bel.refl _).alloc _).drew).trans hb1; have hbig := Below.size hb1; clear hb1) | (refine (G.out _ ?_).mono ?_; exact (Bel.refl _).drew; rintro r w1 ⟨rfl, hb1, k1, k2⟩; have hb2 : Bel w w1 := (Bel.refl _).drew.trans hb1; clear hb1)))
    all_goals (go_wp2_with fail; go_meet; first | exact ⟨w1.heap.size, rfl, rfl, rfl, Below.size hb2, Blk.new _ _ _, hb2.alloc _⟩ | exact ⟨w.heap.size, rfl, rfl, rfl, Nat.le_refl _, (dB.out.set 0 _).set 1 _, (hb2.set (Nat.le_refl _) _).set (Nat.le_refl _) _⟩)
  case rest =>
    obtain ⟨g, rfl, rfl, rfl, hg, hG, hbel⟩ := hcut
    have HG := Lib.hid hG
    have HB := Lib.hid hbel
    have HR := Lib.hid (H.out.bel hbel)
    have g0 : wc.cell? ⟨g, 0, none⟩ = some (.int .i64 e) := hG.cell 0 rfl
    have hbl := H.out.blk.lt
    have hne : g ≠ b := by omega
    clear hG hbel c1 c2 n1
    rcases hm with ⟨rfl, rfl, rfl⟩ | ⟨he, rfl, rfl⟩
    · have k2 : wc.cell? ⟨b, 2, none⟩ = some (.int .i64 (k : Int)) := HR.out.blk.cell 2 rfl
      have f2 := HR.out.blk.frozen 2
      go_wp2
      go_ret
      exact ⟨rfl, ⟨A, n, c, none, HR.out.move hk', .inl ⟨rfl, rfl⟩⟩, (Kep.of_bel HB.out).set_self _ _⟩
    · have k3 : wc.cell? ⟨b, 3, none⟩ = some (.pointer none) := HR.out.blk.cell 3 rfl
      have f3 := HR.out.blk.frozen 3
      have fe : (e != 0) = true := by rw [bne_iff_ne]; exact he
      have HE := Lib.hid he
      have HX := Lib.hid (hx he)
      clear he hx
      go_wp2
      go_ret
      exact ⟨by rw [HX.out]; rfl, ⟨A, n, c, _, HR.out.fault (some ⟨g, 0, none⟩), .inr ⟨e, bad, g, rfl, rfl, hne, HG.out.other hne 3 _, HE.out⟩⟩, (Kep.of_bel HB.out).set_self _ _⟩
end Cd
end Go.Proofs.YtpohcdfmkcfonaaGreatDoor
end

section
/-
  What Blob of a reader answers in this program, and its items in general.
  Conditions: the reader is one that NewReader made of at most 10^6 bytes.
-/
namespace Go.Proofs.YtpohcdfmkcfonaaGreatDoor
open Go.RowKit Go.Shelf
set_option linter.unusedVariables false
namespace Cd

/-- What Blob tells: the bytes, the place behind them, or a fault. -/
def BWay (zs : List Int) (k : Nat) (most : Int) (ys : List Int) (tl e bad : Int) : Prop :=
  ∃ x0 t0 e0 b0, Way zs k x0 t0 e0 b0 ∧ 0 ≤ x0 ∧ x0 ≤ 18446744073709551615 ∧ ((e0 ≠ 0 ∧ ys = [] ∧ tl = 0 ∧ e = e0 ∧ bad = b0) ∨ (e0 = 0 ∧ (most < 0 ∨ most < x0) ∧ ys = [] ∧ tl = 0 ∧ e = 4 ∧ bad = k) ∨
    (∃ t : Nat, t0 = t ∧ t ≤ zs.length ∧ e0 = 0 ∧ 0 ≤ most ∧ x0 ≤ most ∧ (zs.length : Int) - t < x0 ∧ ys = [] ∧ tl = 0 ∧ e = 6 ∧ bad = k) ∨
    (∃ t m : Nat, t0 = t ∧ x0 = m ∧ t + m ≤ zs.length ∧ e0 = 0 ∧ 0 ≤ most ∧ x0 ≤ most ∧ ys = (zs.drop t).take m ∧ tl = ((t + m : Nat) : Int) ∧ e = 0 ∧ bad = 0))
abbrev gotV (v : Value) (tl e bad : Int) : Value := .tuple #[v, .int .i64 tl, .agg #[.int .i64 e, .int .i64 bad]]

/-- A part of a slice, as the program cuts it. -/
theorem sl_part {A : Option Addr} {n c : Nat} {zs : List Int} {w : World} (hs : Sl w A n c zs) (k m : Nat) (hk : k + m ≤ n) :
    ∃ A', (∀ w' : World, (Instr.slice 25 (.slice A n c) (some (.int .i64 (k : Int))) (some (.int .i64 ((k + m : Nat) : Int))) none).run Tryz.prog w' = .ok (.slice A' m (c - k)) w') ∧ Sl w A' m (c - k) ((zs.drop k).take m) := by
  have hc := hs.cap
  refine ⟨_, fun w' => ?_, hs.ints.part hk hc, by omega, fun h => ?_⟩
  · rw [slice_lh A n c k ((k + m : Nat) : Int) w' (by omega) (by omega) (by omega)]
    simp only [Int.toNat_natCast, Nat.add_sub_cancel_left]
  · split at h
    · omega
    · have : A = none := by cases A with | none => rfl | some a => simp at h
      have := hs.nil this
      omega

end Cd
end Go.Proofs.YtpohcdfmkcfonaaGreatDoor
end

section
/-
  What item of a reader answers in this program where the item is bytes, and what U, N and Blob answer.
  Conditions: the reader is one that NewReader made of at most 10^6 bytes.
-/
namespace Go.Proofs.YtpohcdfmkcfonaaGreatDoor
open Go.RowKit Go.Shelf
set_option linter.unusedVariables false
namespace Cd

theorem own_ne {w : World} {base : Nat} {e : TypeId} {size : Nat} {v : Value} {n : Nat} {xs : List Value} (h : w.ownsRow base e size v n xs) {b : Nat} (hb : b < base) : v.ownBlock ≠ some b := fun e => by
  have := (h.lt _ e).1
  omega
theorem own_set2 {w w1 : World} {v : Value} {n : Nat} {xs : List Value} {o : Obj} (h : w1.ownsRow (w.alloc o).drew.heap.size 5 1 v n xs) {u1 u2 : Value} : Hid (((w1.setCell ⟨w.heap.size, 0, none⟩ u1).setCell ⟨w.heap.size, 1, none⟩ u2).ownsRow w.heap.size 5 1 v n xs) := by
  have hne : v.ownBlock ≠ some w.heap.size := fun e => by have := (h.lt _ e).1; simp at this; omega
  exact owns_set (owns_set (owns_mono h (by simp)) hne 0 _) hne 1 _



def RU (zs : List Int) (k : Nat) (f : Option (Int × Int)) (x : Int) (k' : Nat) (f' : Option (Int × Int)) : Prop :=
  (∃ p, f = some p ∧ x = 0 ∧ k' = k ∧ f' = f) ∨ (f = none ∧ ∃ tl e bad, Way zs k x tl e bad ∧ Moves k tl e bad k' f' ∧ k' ≤ zs.length ∧ (e ≠ 0 → x = 0))
def RN (zs : List Int) (k : Nat) (f : Option (Int × Int)) (least most x : Int) (k' : Nat) (f' : Option (Int × Int)) : Prop :=
  (∃ p, f = some p ∧ x = 0 ∧ k' = k ∧ f' = f) ∨ (f = none ∧ ∃ tl e bad, NWay zs k least most x tl e bad ∧ Moves k tl e bad k' f' ∧ k' ≤ zs.length ∧ (e ≠ 0 → x = 0))
def RB (zs : List Int) (k : Nat) (f : Option (Int × Int)) (most : Int) (ys : List Int) (k' : Nat) (f' : Option (Int × Int)) : Prop :=
  (∃ p, f = some p ∧ ys = [] ∧ k' = k ∧ f' = f) ∨ (f = none ∧ ∃ tl e bad, BWay zs k most ys tl e bad ∧ Moves k tl e bad k' f' ∧ k' ≤ zs.length ∧ (e ≠ 0 → ys = []))

end Cd
end Go.Proofs.YtpohcdfmkcfonaaGreatDoor
end

section
/-
  What N and Blob of a reader answer in this program, and Fail.
  Conditions: the reader is one that NewReader made of at most 10^6 bytes.
-/
namespace Go.Proofs.YtpohcdfmkcfonaaGreatDoor
open Go.RowKit Go.Shelf
set_option linter.unusedVariables false
namespace Cd

theorem bel_cell {w w' : World} (h : Bel w w') {b o : Nat} {v : Value} (hc : w.cell? ⟨b, o, none⟩ = some v) : w'.cell? ⟨b, o, none⟩ = some v := (Kep.of_bel (S := fun _ => False) h).cell id hc

set_option maxRecDepth 100000 in
theorem rN (b : Nat) (zs : List Int) (k : Nat) (f : Option (Int × Int)) (least most x : Int) (k' : Nat) (f' : Option (Int × Int)) (w : World) (h : RS w b zs k f) (hr : RN zs k f least most x k' f') (hm : most ≤ 9223372036854775807) :
    Calls Tryz.prog 38 #[.pointer (some ⟨b, 0, none⟩), .int .i64 least, .int .i64 most] w fun e w' => e = .returned (.int .i64 x) ∧ RS w' b zs k' f' ∧ Kep (fun i => i = b) w w' := by
  have b0 : Bel w ((w.alloc (.cells #[.int .i64 least] 3)).alloc (.cells #[.int .i64 most] 3)) := ((Bel.refl w).alloc _).alloc _
  have HB0 := Lib.hid b0
  have hbl : b < w.heap.size := by obtain ⟨A, n, c, F, hs, _⟩ := h; exact hs.blk.lt
  obtain ⟨A, n, c, F, hs, hf⟩ := h.bel b0
  have p1 : ((w.alloc (.cells #[.int .i64 least] 3)).alloc (.cells #[.int .i64 most] 3)).cell? ⟨w.heap.size, 0, none⟩ = some (.int .i64 least) := ((Blk.new w _ _).alloc _).cell 0 rfl
  have p2 : ((w.alloc (.cells #[.int .i64 least] 3)).alloc (.cells #[.int .i64 most] 3)).cell? ⟨w.heap.size + 1, 0, none⟩ = some (.int .i64 most) := by
    have := (Blk.new (w.alloc (.cells #[.int .i64 least] 3)) #[.int .i64 most] 3).cell 0 rfl
    rwa [World.size_alloc] at this
  have HP1 := Lib.hid p1
  have HP2 := Lib.hid p2
  rcases hr with ⟨p, rfl, rfl, rfl, rfl⟩ | ⟨rfl, tl, e, bad, hw, hmv, hk, hx⟩
  · obtain ⟨_, _⟩ | ⟨e, q, fb, h1, rfl, h3, h4, h5⟩ := hf
    · contradiction
    have IT := Lib.hid (itemN_fault b A n c zs k' ⟨fb, 0, none⟩ (.func (.func 62) #[] #[.pointer (some ⟨w.heap.size, 0, none⟩), .pointer (some ⟨w.heap.size + 1, 0, none⟩)]) _ hs)
    have HR : Hid (RS _ b zs k' (some p)) := ⟨A, n, c, _, hs, .inr ⟨e, q, fb, h1, rfl, h3, h4, h5⟩⟩
    clear hs h1 h3 h4 h5 p1 p2 b0 h
    go_enter Tryz.func38, Tryz.ntmps38
    go_wp2_with fail
    refine (IT.out).mono ?_
    rintro e w' ⟨rfl, rfl⟩
    go_wp2
    go_ret
    exact ⟨rfl, HR.out, Kep.of_bel HB0.out⟩
  · obtain ⟨_, rfl⟩ | ⟨e, q, fb, h1, _⟩ := hf
    · have IT := Lib.hid (itemN b A n c zs k x tl e bad k' f' _ hs ⟨w.heap.size, 0, none⟩ ⟨w.heap.size + 1, 0, none⟩ (fun w' hb => n1 A n c zs k least most x tl e bad w.heap.size (w.heap.size + 1) w' (hs.sl.bel hb) hs.len hs.bytes hw (bel_cell hb HP1.out) (bel_cell hb HP2.out) hm) hmv (by rw [← hs.sl.len]; exact hk) hx)
      clear hs hw hmv hk hx p1 p2 b0 h hm
      go_enter Tryz.func38, Tryz.ntmps38
      go_wp2_with fail
      refine (IT.out).mono ?_
      rintro e w' ⟨rfl, h1, h2⟩
      have H1 := Lib.hid h1
      have H2 := Lib.hid h2
      clear h1 h2
      go_wp2
      go_ret
      exact ⟨rfl, H1.out, (Kep.of_bel HB0.out).trans H2.out⟩
    · cases h1


/-- What Fail makes of a fault. -/
def failOf (f : Option (Int × Int)) (e p : Int) : Option (Int × Int) := if e = 0 then f else match f with
  | some q => some q
  | none => some (e, p)

set_option maxRecDepth 100000 in
theorem rFail (b : Nat) (zs : List Int) (k : Nat) (f : Option (Int × Int)) (e p : Int) (w : World) (h : RS w b zs k f) :
    Calls Tryz.prog 39 #[.pointer (some ⟨b, 0, none⟩), .int .i64 e, .int .i64 p] w fun r w' => r = .returned (.tuple #[]) ∧ RS w' b zs k (failOf f e p) ∧ Kep (fun i => i = b) w w' := by
  obtain ⟨A, n, c, F, hs, hf⟩ := h
  have T := Lib.hid (trouble b A n c zs k F w hs)
  have HS := Lib.hid hs
  have HF := Lib.hid hf
  have hbl := hs.blk.lt
  by_cases he : e = 0
  · have E := Lib.hid (show failOf f e p = f from if_pos he)
    have fe : (e != 0) = false := by rw [he]; rfl
    clear hs hf he
    go_enter Tryz.func39, Tryz.ntmps39
    go_wp2
    go_end0
    rw [E.out]
    exact ⟨rfl, ⟨A, n, c, F, HS.out, HF.out⟩, Kep.refl _ _⟩
  · have fe : (e != 0) = true := by rw [bne_iff_ne]; exact he
    have HE := Lib.hid he
    rcases hf with ⟨rfl, rfl⟩ | ⟨e', q, fb, rfl, rfl, h3, h4, h5⟩
    · have E := Lib.hid (show failOf none e p = some (e, p) from if_neg he)
      have k3 : w.cell? ⟨b, 3, none⟩ = some (.pointer none) := hs.blk.cell 3 rfl
      have k3' : (w.alloc (.cells #[.int .i64 e, .int .i64 p] 34)).cell? ⟨b, 3, none⟩ = some (.pointer none) := (hs.blk.alloc _).cell 3 rfl
      have f3 := hs.blk.frozen 3
      have f3' := (hs.blk.alloc (.cells #[.int .i64 e, .int .i64 p] 34)).frozen 3
      clear hs he
      go_enter Tryz.func39, Tryz.ntmps39
      go_wp2_with (go_at_call 60; refine (T.out).mono ?_; rintro r w' ⟨rfl, rfl⟩)
      go_end0
      rw [E.out]
      have hbk := Blk.new (w.setCell ⟨b, 3, none⟩ (.pointer (some ⟨w.heap.size, 0, none⟩))) #[.int .i64 e, .int .i64 p] 34
      have hsz : (w.setCell ⟨b, 3, none⟩ (.pointer (some ⟨w.heap.size, 0, none⟩))).heap.size = w.heap.size := by simp
      rw [hsz] at hbk
      exact ⟨rfl, ⟨A, n, c, _, (HS.out.fault (some ⟨w.heap.size, 0, none⟩)).bel ((Bel.refl _).alloc _), .inr ⟨e, p, w.heap.size, rfl, rfl, by omega, hbk, HE.out⟩⟩, ((Kep.refl _ _).set_self 3 _).alloc _⟩
    · have E := Lib.hid (show failOf (some (e', q)) e p = some (e', q) from if_neg he)
      clear hs he
      go_enter Tryz.func39, Tryz.ntmps39
      go_wp2_with (go_at_call 60; refine (T.out).mono ?_; rintro r w' ⟨rfl, rfl⟩)
      go_end0
      rw [E.out]
      exact ⟨rfl, ⟨A, n, c, _, HS.out, HF.out⟩, Kep.refl _ _⟩
end Cd
end Go.Proofs.YtpohcdfmkcfonaaGreatDoor
end
