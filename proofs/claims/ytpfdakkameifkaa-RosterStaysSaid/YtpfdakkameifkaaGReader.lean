/-
  What a reader answers in this program: its state, its place, what is left, its end; what U reads.
  Conditions: the reader is one that NewReader made of at most 10^6 bytes.
-/
import Derived.Deep.RegionWith
import Derived.Test.YtpfdakkameifkaaGObj
namespace Go.Proofs.Ytpfdakkameifkaa
open Go.RowKit Go.Shelf
set_option linter.unusedVariables false
namespace Cd

/-- A reader: where it lies, its bytes, its place, its fault's place. -/
structure RSt (w : World) (b : Nat) (A : Option Addr) (n c : Nat) (zs : List Int) (k : Nat) (F : Option Addr) : Prop where
  blk : Blk w b #[.pointer (some ⟨b, 0, none⟩), .slice A n c, .int .i64 (k : Int), .pointer F] 117
  sl : Sl w A n c zs
  len : n ≤ 1000000
  bytes : Bytes zs
  le : k ≤ n
  apart : ∀ x : Addr, A = some x → x.block ≠ b
/-- Its fault: none, or an error and a place. -/
def Flt (w : World) (b : Nat) (F : Option Addr) (f : Option (Int × Int)) : Prop :=
  (f = none ∧ F = none) ∨ (∃ e p fb, f = some (e, p) ∧ F = some ⟨fb, 0, none⟩ ∧ fb ≠ b ∧ Blk w fb #[.int .i64 e, .int .i64 p] 54 ∧ e ≠ 0)
def RS (w : World) (b : Nat) (zs : List Int) (k : Nat) (f : Option (Int × Int)) : Prop := ∃ A n c F, RSt w b A n c zs k F ∧ Flt w b F f

theorem RSt.kep {S : Nat → Prop} {w w' : World} {b : Nat} {A : Option Addr} {n c : Nat} {zs : List Int} {k : Nat} {F : Option Addr} (h : RSt w b A n c zs k F) (hk : Kep S w w') (h1 : ¬ S b) (h2 : ∀ x : Addr, A = some x → ¬ S x.block) : RSt w' b A n c zs k F :=
  ⟨h.blk.kep hk h1, ⟨hk.ints h2 h.sl.ints, h.sl.cap, h.sl.nil⟩, h.len, h.bytes, h.le, h.apart⟩
theorem RSt.bel {w w' : World} {b : Nat} {A : Option Addr} {n c : Nat} {zs : List Int} {k : Nat} {F : Option Addr} (h : RSt w b A n c zs k F) (hk : Bel w w') : RSt w' b A n c zs k F :=
  ⟨h.blk.bel hk, h.sl.bel hk, h.len, h.bytes, h.le, h.apart⟩
theorem Flt.bel {w w' : World} {b : Nat} {F : Option Addr} {f : Option (Int × Int)} (h : Flt w b F f) (hk : Bel w w') : Flt w' b F f := by
  rcases h with h | ⟨e, p, fb, h1, h2, h3, h4, h5⟩
  · exact .inl h
  · exact .inr ⟨e, p, fb, h1, h2, h3, h4.bel hk, h5⟩
theorem RS.bel {w w' : World} {b : Nat} {zs : List Int} {k : Nat} {f : Option (Int × Int)} (h : RS w b zs k f) (hk : Bel w w') : RS w' b zs k f := by
  obtain ⟨A, n, c, F, h1, h2⟩ := h
  exact ⟨A, n, c, F, h1.bel hk, h2.bel hk⟩
/-- The place moved on. -/
theorem RSt.move {w : World} {b : Nat} {A : Option Addr} {n c : Nat} {zs : List Int} {k : Nat} {F : Option Addr} (h : RSt w b A n c zs k F) {k' : Nat} (hk : k' ≤ n) : RSt (w.setCell ⟨b, 2, none⟩ (.int .i64 (k' : Int))) b A n c zs k' F :=
  ⟨h.blk.set 2 _, ⟨(Kep.set (S := fun i => i = b) (Kep.refl _ w) (b := b) (o := 2) rfl _).ints h.apart h.sl.ints, h.sl.cap, h.sl.nil⟩, h.len, h.bytes, hk, h.apart⟩
/-- A fault laid. -/
theorem RSt.fault {w : World} {b : Nat} {A : Option Addr} {n c : Nat} {zs : List Int} {k : Nat} {F : Option Addr} (h : RSt w b A n c zs k F) (G : Option Addr) : RSt (w.setCell ⟨b, 3, none⟩ (.pointer G)) b A n c zs k G :=
  ⟨h.blk.set 3 _, ⟨(Kep.set (S := fun i => i = b) (Kep.refl _ w) (b := b) (o := 3) rfl _).ints h.apart h.sl.ints, h.sl.cap, h.sl.nil⟩, h.len, h.bytes, h.le, h.apart⟩

theorem rneq (a : Addr) (w : World) : (binOp .neq 93 (.pointer (some a)) (.pointer (some a))).run Try.prog w = .ok (.bool false) w :=
  neq_self _ 117 a 4 Try.underlying93 (fun w => Try.sizeOf117 w) (by decide)

theorem newReader (A : Option Addr) (n c : Nat) (zs : List Int) (w : World) (hs : Sl w A n c zs) (hn : n ≤ 1000000) (hb : Bytes zs) :
    Calls Try.prog 80 #[.slice A n c] w fun e w' => ∃ b A' c', e = .returned (.pointer (some ⟨b, 0, none⟩)) ∧ w.heap.size ≤ b ∧ RSt w' b A' n c' zs 0 none ∧ (∀ x : Addr, A' = some x → w.heap.size ≤ x.block) ∧ Bel w w' := by
  have CL := Lib.hid (clone A n c zs w hs (by omega))
  have hl := hs.len
  clear hs
  go_enter Try.func80, Try.ntmps80
  go_wp2_with fail
  refine (CL.out).mono ?_
  rintro e w1 ⟨u, rfl, hu⟩
  obtain ⟨A', c', hv, hs'⟩ := hu.sl
  subst hv
  have b1 : Bel w w1 := hu.2
  have HS := Lib.hid hs'
  have HA : Hid (∀ x : Addr, A' = some x → w.heap.size ≤ x.block ∧ x.block < w1.heap.size) := by rintro x rfl; exact hu.1.lt _ rfl
  clear hs' hu
  have hlt1 : w.heap.size ≤ w1.heap.size := Below.size b1
  go_wp2
  go_ret
  refine ⟨w1.heap.size, A', c', rfl, hlt1, ⟨Blk.new _ _ _, ?_, hn, hb, Nat.zero_le _, fun x hx => by have := HA.out x hx; omega⟩, fun x hx => (HA.out x hx).1, b1.alloc _⟩
  have h := HS.out
  rw [hl] at h
  exact h.bel ((Bel.refl _).alloc _)

set_option maxRecDepth 100000 in
theorem trouble (b : Nat) (A : Option Addr) (n c : Nat) (zs : List Int) (k : Nat) (F : Option Addr) (w : World) (h : RSt w b A n c zs k F) :
    Calls Try.prog 105 #[.pointer (some ⟨b, 0, none⟩)] w fun e w' => e = .returned (.pointer F) ∧ w = w' := by
  have c0 : w.cell? ⟨b, 0, none⟩ = some (.pointer (some ⟨b, 0, none⟩)) := h.blk.cell 0 rfl
  have c3 : w.cell? ⟨b, 3, none⟩ = some (.pointer F) := h.blk.cell 3 rfl
  have hq := rneq ⟨b, 0, none⟩
  clear h
  go_enter Try.func105, Try.ntmps105
  go_wp2
  go_ret
  exact ⟨rfl, rfl⟩

set_option maxRecDepth 100000 in
theorem rat_none (b : Nat) (A : Option Addr) (n c : Nat) (zs : List Int) (k : Nat) (w : World) (h : RSt w b A n c zs k none) :
    Calls Try.prog 82 #[.pointer (some ⟨b, 0, none⟩)] w fun e w' => e = .returned (.int .i64 (k : Int)) ∧ w = w' := by
  have T := Lib.hid (trouble b A n c zs k none w h)
  have c2 : w.cell? ⟨b, 2, none⟩ = some (.int .i64 (k : Int)) := h.blk.cell 2 rfl
  clear h
  go_enter Try.func82, Try.ntmps82
  go_wp2_with (go_at_call 105; refine (T.out).mono ?_; rintro e w' ⟨rfl, rfl⟩)
  go_ret
  exact ⟨rfl, rfl⟩
set_option maxRecDepth 100000 in
theorem rat_some (b : Nat) (A : Option Addr) (n c : Nat) (zs : List Int) (k fb : Nat) (e p : Int) (w : World) (h : RSt w b A n c zs k (some ⟨fb, 0, none⟩)) (hf : Blk w fb #[.int .i64 e, .int .i64 p] 54) :
    Calls Try.prog 82 #[.pointer (some ⟨b, 0, none⟩)] w fun r w' => r = .returned (.int .i64 p) ∧ w = w' := by
  have T := Lib.hid (trouble b A n c zs k _ w h)
  have c2 : w.cell? ⟨fb, 1, none⟩ = some (.int .i64 p) := hf.cell 1 rfl
  clear h hf
  go_enter Try.func82, Try.ntmps82
  go_wp2_with (go_at_call 105; refine (T.out).mono ?_; rintro e w' ⟨rfl, rfl⟩)
  go_ret
  exact ⟨rfl, rfl⟩

set_option maxRecDepth 100000 in
theorem rleft_none (b : Nat) (A : Option Addr) (n c : Nat) (zs : List Int) (k : Nat) (w : World) (h : RSt w b A n c zs k none) :
    Calls Try.prog 107 #[.pointer (some ⟨b, 0, none⟩)] w fun e w' => e = .returned (.int .i64 ((n : Int) - (k : Int))) ∧ Bel w w' := by
  have T := Lib.hid (trouble b A n c zs k none w h)
  have c1 : w.cell? ⟨b, 1, none⟩ = some (.slice A n c) := h.blk.cell 1 rfl
  have c2 : w.cell? ⟨b, 2, none⟩ = some (.int .i64 (k : Int)) := h.blk.cell 2 rfl
  have h1 := h.len
  have h2 := h.le
  clear h
  go_enter Try.func107, Try.ntmps107
  go_wp2_with (go_at_call 105; refine (T.out).mono ?_; rintro e w' ⟨rfl, rfl⟩)
  have e1 : IntKind.i64.wrap ((n : Int) - (k : Int)) = (n : Int) - (k : Int) := IntWalk.i64_in _ (by omega)
  go_region
  all_goals
    go_wp2
    go_ret
    exact ⟨rfl, (Bel.refl _).drew⟩
set_option maxRecDepth 100000 in
theorem rleft_some (b : Nat) (A : Option Addr) (n c : Nat) (zs : List Int) (k : Nat) (x : Addr) (w : World) (h : RSt w b A n c zs k (some x)) :
    Calls Try.prog 107 #[.pointer (some ⟨b, 0, none⟩)] w fun e w' => e = .returned (.int .i64 0) ∧ w = w' := by
  have T := Lib.hid (trouble b A n c zs k _ w h)
  clear h
  go_enter Try.func107, Try.ntmps107
  go_wp2_with (go_at_call 105; refine (T.out).mono ?_; rintro e w' ⟨rfl, rfl⟩)
  go_ret
  exact ⟨rfl, rfl⟩

set_option maxRecDepth 100000 in
theorem rend_some (b : Nat) (A : Option Addr) (n c : Nat) (zs : List Int) (k fb : Nat) (e p : Int) (w : World) (h : RSt w b A n c zs k (some ⟨fb, 0, none⟩)) (hf : Blk w fb #[.int .i64 e, .int .i64 p] 54) :
    Calls Try.prog 85 #[.pointer (some ⟨b, 0, none⟩)] w fun r w' => r = .returned (.agg #[.int .i64 e, .int .i64 p]) ∧ Bel w w' := by
  have T := Lib.hid (fun w' (hw : Bel w w') => trouble b A n c zs k _ w' (h.bel hw))
  have hw : Bel w (w.alloc (.cells #[.int .i64 0, .int .i64 0] 54)) := (Bel.refl w).alloc _
  have c1 : (w.alloc (.cells #[.int .i64 0, .int .i64 0] 54)).cell? ⟨fb, 0, none⟩ = some (.int .i64 e) := (hf.bel hw).cell 0 rfl
  have c2 : (w.alloc (.cells #[.int .i64 0, .int .i64 0] 54)).cell? ⟨fb, 1, none⟩ = some (.int .i64 p) := (hf.bel hw).cell 1 rfl
  have HW := Lib.hid hw
  clear h hf hw
  go_enter Try.func85, Try.ntmps85
  go_wp2_with (go_at_call 105; refine (T.out _ HW.out).mono ?_; rintro e w' ⟨rfl, rfl⟩)
  refine bodyPost_ret (v := .agg #[.int .i64 e, .int .i64 p]) (by simp [results, Try.results85, go_sem]) rfl ⟨rfl, ?_⟩
  exact (Bel.refl _).alloc _
set_option maxRecDepth 100000 in
theorem rend_none (b : Nat) (A : Option Addr) (n c : Nat) (zs : List Int) (k : Nat) (w : World) (h : RSt w b A n c zs k none) :
    Calls Try.prog 85 #[.pointer (some ⟨b, 0, none⟩)] w fun r w' => r = .returned (if k < n then .agg #[.int .i64 4, .int .i64 (k : Int)] else .agg #[.int .i64 0, .int .i64 0]) ∧ Bel w w' := by
  have T := Lib.hid (fun w' (hw : Bel w w') => trouble b A n c zs k _ w' (h.bel hw))
  have LF := Lib.hid (fun w' (hw : Bel w w') => rleft_none b A n c zs k w' (h.bel hw))
  have HR := Lib.hid h
  have hw : Bel w (w.alloc (.cells #[.int .i64 0, .int .i64 0] 54)) := (Bel.refl w).alloc _
  have HW := Lib.hid hw
  have h1 := h.le
  have h2 := h.len
  clear h hw
  by_cases hlt : k < n
  · rw [if_pos hlt]
    have hd : (0 : Int) < (n : Int) - (k : Int) := by omega
    go_enter Try.func85, Try.ntmps85
    go_wp2_with fail
    refine (T.out _ HW.out).mono ?_
    rintro e w' ⟨rfl, rfl⟩
    go_wp2_with fail
    refine (LF.out _ HW.out).mono ?_
    rintro e w2 ⟨rfl, hb2⟩
    have c2 : w2.cell? ⟨b, 2, none⟩ = some (.int .i64 (k : Int)) := (HR.out.blk.bel (HW.out.trans hb2)).cell 2 rfl
    have d0 : w2.cell? ⟨w.heap.size, 0, none⟩ = some (.int .i64 0) := (Below.cell (p := ⟨w.heap.size, 0, none⟩) hb2 (by simp)).trans (by simp)
    have d1 : w2.cell? ⟨w.heap.size, 1, none⟩ = some (.int .i64 0) := (Below.cell (p := ⟨w.heap.size, 1, none⟩) hb2 (by simp)).trans (by simp)
    have f0 : w2.frozen? ⟨w.heap.size, 0, none⟩ = false := (Below.frozen (p := ⟨w.heap.size, 0, none⟩) hb2 (by simp)).trans (by simp)
    have f1 : w2.frozen? ⟨w.heap.size, 1, none⟩ = false := (Below.frozen (p := ⟨w.heap.size, 1, none⟩) hb2 (by simp)).trans (by simp)
    have hb3 : Bel w w2 := HW.out.trans hb2
    clear hb2
    go_wp2
    refine bodyPost_ret (v := .agg #[.int .i64 4, .int .i64 (k : Int)]) (by simp [results, Try.results85, go_sem, d0, d1]) rfl ⟨rfl, ?_⟩
    exact (hb3.set (Nat.le_refl _) _).set (Nat.le_refl _) _
  · rw [if_neg hlt]
    have hd : (n : Int) - (k : Int) ≤ 0 := by omega
    go_enter Try.func85, Try.ntmps85
    go_wp2_with fail
    refine (T.out _ HW.out).mono ?_
    rintro e w' ⟨rfl, rfl⟩
    go_wp2_with fail
    refine (LF.out _ HW.out).mono ?_
    rintro e w2 ⟨rfl, hb2⟩
    have d0 : w2.cell? ⟨w.heap.size, 0, none⟩ = some (.int .i64 0) := (Below.cell (p := ⟨w.heap.size, 0, none⟩) hb2 (by simp)).trans (by simp)
    have d1 : w2.cell? ⟨w.heap.size, 1, none⟩ = some (.int .i64 0) := (Below.cell (p := ⟨w.heap.size, 1, none⟩) hb2 (by simp)).trans (by simp)
    have f0 : w2.frozen? ⟨w.heap.size, 0, none⟩ = false := (Below.frozen (p := ⟨w.heap.size, 0, none⟩) hb2 (by simp)).trans (by simp)
    have f1 : w2.frozen? ⟨w.heap.size, 1, none⟩ = false := (Below.frozen (p := ⟨w.heap.size, 1, none⟩) hb2 (by simp)).trans (by simp)
    have hb3 : Bel w w2 := HW.out.trans hb2
    clear hb2
    go_wp2
    refine bodyPost_ret (v := .agg #[.int .i64 0, .int .i64 0]) (by simp [results, Try.results85, go_sem, d0, d1]) rfl ⟨rfl, ?_⟩
    exact (hb3.set (Nat.le_refl _) _).set (Nat.le_refl _) _

/-- What the end of a reader tells. -/
def endOf (n k : Nat) (f : Option (Int × Int)) : Int × Int :=
  match f with
  | some p => p
  | none => if k < n then (4, (k : Int)) else (0, 0)
def atOf (k : Nat) (f : Option (Int × Int)) : Int :=
  match f with
  | some p => p.2
  | none => k
def leftOf (n k : Nat) (f : Option (Int × Int)) : Int :=
  match f with
  | some _ => 0
  | none => (n : Int) - k
abbrev fault (p : Int × Int) : Value := .agg #[.int .i64 p.1, .int .i64 p.2]

theorem rAt (b : Nat) (zs : List Int) (k : Nat) (f : Option (Int × Int)) (w : World) (h : RS w b zs k f) :
    Calls Try.prog 82 #[.pointer (some ⟨b, 0, none⟩)] w fun e w' => e = .returned (.int .i64 (atOf k f)) ∧ w = w' := by
  obtain ⟨A, n, c, F, h, ⟨rfl, rfl⟩ | ⟨e, p, fb, rfl, rfl, h3, h4, h5⟩⟩ := h
  · exact rat_none b A n c zs k w h
  · exact rat_some b A n c zs k fb e p w h h4
theorem rLeft (b : Nat) (zs : List Int) (k : Nat) (f : Option (Int × Int)) (w : World) (h : RS w b zs k f) :
    Calls Try.prog 107 #[.pointer (some ⟨b, 0, none⟩)] w fun e w' => e = .returned (.int .i64 (leftOf zs.length k f)) ∧ Bel w w' := by
  obtain ⟨A, n, c, F, h, ⟨rfl, rfl⟩ | ⟨e, p, fb, rfl, rfl, h3, h4, h5⟩⟩ := h
  · have hl := h.sl.len
    subst hl
    exact rleft_none b A _ c zs k w h
  · exact (rleft_some b A n c zs k _ w h).mono fun e w' h => ⟨h.1, by rw [h.2]; exact Bel.refl _⟩
theorem rEnd (b : Nat) (zs : List Int) (k : Nat) (f : Option (Int × Int)) (w : World) (h : RS w b zs k f) :
    Calls Try.prog 85 #[.pointer (some ⟨b, 0, none⟩)] w fun e w' => e = .returned (fault (endOf zs.length k f)) ∧ Bel w w' := by
  obtain ⟨A, n, c, F, h, ⟨rfl, rfl⟩ | ⟨e, p, fb, rfl, rfl, h3, h4, h5⟩⟩ := h
  · have hl := h.sl.len
    subst hl
    refine (rend_none b A _ c zs k w h).mono fun e w' h => ⟨h.1.trans ?_, h.2⟩
    unfold endOf
    split <;> rfl
  · exact rend_some b A n c zs k fb e p w h h4
end Cd
end Go.Proofs.Ytpfdakkameifkaa
