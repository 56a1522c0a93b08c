/-
  The iterator over a level's changes: what it yields, in whatever way the body writes the journal's own blocks. Conditions: the changes lie in memory as a chain.
-/
import Derived.Test.YtogphhhlbofgkaaJn5
import Derived.RangeFuncWrites
import Derived.RangeFuncNested
namespace Go.Proofs.Ytogphhhlbofgkaa
open Go.RowKit Go.Shelf Go.Maps
set_option linter.unusedVariables false
attribute [local go_sem] Oper.semAt_some
namespace Jn
open Kk Pm Bk

theorem info_ch : ∃ j, Try.prog.info? 80 = some j ∧ j.size = 3 := by
  have h : (Try.prog.info? 80).map (·.size) = some 3 := by kernel_rfl
  cases h2 : Try.prog.info? 80 with
  | none => rw [h2] at h; cases h
  | some j => rw [h2] at h; exact ⟨j, rfl, by simpa using h⟩
theorem pneq_same (m : Option Addr) (w : World) : (binOp .neq 46 (.pointer m) (.pointer m)).run Try.prog w = .ok (.bool false) w := by
  obtain ⟨j, hj, hs⟩ := info_ch
  have ht := Try.underlying46
  cases m with
  | none =>
    have h : ∀ d : Nat, (Op.equalIn (d + 1) 46 (.pointer none) (.pointer none)).run Try.prog w = .ok true w := fun d => by simp [Op.equalIn, run_underlying ht]
    simp only [binOp]
    simp [Op.equal, Op.maxDepth, h 9999]
  | some a =>
    have h : ∀ d : Nat, (Op.equalIn (d + 1) 46 (.pointer (some a)) (.pointer (some a))).run Try.prog w = .ok true w := fun d => by simp [Op.equalIn, run_underlying ht, sizeOf, typeInfo, hj, run_sameAddr_same]
    simp only [binOp]
    simp [Op.equal, Op.maxDepth, h 9999]
theorem pneq_none (a : Addr) (w : World) : (binOp .neq 46 (.pointer (some a)) (.pointer none)).run Try.prog w = .ok (.bool true) w := by
  have ht := Try.underlying46
  have h : ∀ d : Nat, (Op.equalIn (d + 1) 46 (.pointer (some a)) (.pointer none)).run Try.prog w = .ok false w := fun d => by simp [Op.equalIn, run_underlying ht]
  simp only [binOp]
  simp [Op.equal, Op.maxDepth, h 9999]
theorem pneq_other {a b : Addr} {ca cb : Array Value} {ta tb : TypeId} (w : World) (hne : a ≠ b) (ha : w.heap[a.block]? = some (.cells ca ta (0, 0))) (hb : w.heap[b.block]? = some (.cells cb tb (0, 0))) :
    (binOp .neq 46 (.pointer (some a)) (.pointer (some b))).run Try.prog w = .ok (.bool true) w := by
  obtain ⟨j, hj, hs⟩ := info_ch
  have ht := Try.underlying46
  have h : ∀ d : Nat, (Op.equalIn (d + 1) 46 (.pointer (some a)) (.pointer (some b))).run Try.prog w = .ok false w := fun d => by
    simp [Op.equalIn, run_underlying ht, sizeOf, typeInfo, hj, hs, run_sameAddr_other w hne ha hb]
  simp only [binOp]
  simp [Op.equal, Op.maxDepth, h 9999]

/-- What a mark points to, if to anything. -/
def Mk (I : Nat → Prop) (w : World) (m : Option Addr) : Prop := m = none ∨ ∃ b c q, m = some ⟨b, 0, none⟩ ∧ Cb I w b c q
theorem RStack.mk_ {I : Nat → Prop} {w : World} {n : Nat} : ∀ (ls : List (List Ch)) {p : Option Addr} {rs : List (Option Addr × Nat)}, RStack I w n p ls rs → Mk I w p := by
  intro ls
  induction ls with
  | nil => intro p rs h; cases rs with
    | nil => exact .inl h
    | cons r rs => exact h.elim
  | cons c ls ih => intro p rs h; cases rs with
    | nil => exact h.elim
    | cons r rs =>
      cases c with
      | nil => have e := h.1; cases e; exact ih h.2.2.2
      | cons c l => obtain ⟨⟨b, q, rfl, hc, _⟩, _⟩ := h; exact .inr ⟨b, c, q, rfl, hc⟩

/-- Blocks that stay. -/
def KpI (I : Nat → Prop) (x y : Nat) (A B : World) : Prop := ∀ b, (I b ∨ b = x ∨ b = y) → B.heap[b]? = A.heap[b]?
theorem KpI.tr {I : Nat → Prop} {x y : Nat} {A B C : World} (h : KpI I x y A B) (k : KpI I x y B C) : KpI I x y A C := fun b hb => (k b hb).trans (h b hb)
theorem KpI.blk {I : Nat → Prop} {x y : Nat} {A B : World} (h : KpI I x y A B) {b : Nat} {cs : Array Value} {t : TypeId} (hb : Blk A b cs t) (hi : I b ∨ b = x ∨ b = y) : Blk B b cs t := (h b hi).trans hb
/-- A change, as the iterator hands it on. -/
abbrev El (I : Nat → Prop) (w : World) (t : List Ch) := { c : Nat × Ch // (∃ q, Cb I w c.1 c.2 q) ∧ c.2 ∈ t }

set_option maxRecDepth 100000 in
set_option maxHeartbeats 2000000 in
theorem iter_in (I : Nat → Prop) (w0 : World) (x y : Nat) (p m : Option Addr) (t : List Ch) (hx : Blk w0 x #[.pointer p] 46) (hy : Blk w0 y #[.pointer m] 46) (hC : Chain I w0 p t m) (hM : Mk I w0 m)
    (F : Fence) (n : Nat) (hf : F.fn 69) (hro : F.round = none) (hn : 1 ≤ n) (l : Nat) (J Jx : List (El I w0 t) → World → Prop)
    (hY : ∀ pre e W, J pre W → pre.length < t.length → YieldAt F (n - 1) Try.prog l #[.pointer (some ⟨(e : El I w0 t).1.1, 0, none⟩)] W fun r W' => (r = .returned (.bool true) ∧ J (pre ++ [e]) W' ∧ KpI I x y W W') ∨ (r = .returned (.bool false) ∧ Jx (pre ++ [e]) W'))
    (W : World) (hW : KpI I x y w0 W) (h0 : J [] W) :
    CallsIn F n Try.prog 69 #[.func (.yield l) #[] #[], .pointer (some ⟨x, 0, none⟩), .pointer (some ⟨y, 0, none⟩)] W fun e W' => (∃ v, e = .returned v) ∧ ((∃ xs : List (El I w0 t), xs.map (·.1.2) = t ∧ J xs W') ∨ (∃ pre : List (El I w0 t), True ∧ Jx pre W')) := by
  have cx := (hW.blk hx (.inr (.inl rfl))).cell 0 rfl
  have HYB := Lib.hid hy
  have HMK := Lib.hid hM
  have HCH := Lib.hid hC
  have HW0 := Lib.hid hW
  clear hx hy hM
  refine callsIn_of_wp Try.func69 rfl hf ?_ hro
  simp only [Try.ntmps69, List.size_toArray, List.length_cons, List.length_nil, Nat.reduceAdd, Nat.reduceSub, Array.replicate_succ, Array.replicate_zero, List.push_toArray, List.append_toArray, List.nil_append, List.cons_append]
  gi_wp2
  gi_loopw [4] (fun s wr => ∃ (pre : List (El I w0 t)) (rest : List Ch) (q : Option Addr), s = .pointer q ∧ t = pre.map (·.1.2) ++ rest ∧ Chain I w0 q rest m ∧ KpI I x y w0 wr ∧ J pre wr)
    (fun s wr => match s with | .pointer q => ord q | _ => 0)
  case atStart => exact ⟨[], t, p, rfl, by simp, hC, hW, h0⟩
  case round =>
    obtain ⟨pre, rest, q, rfl, hx, hl, hk, hJs⟩ := hrel
    have cy := (hk.blk HYB.out (.inr (.inr rfl))).cell 0 rfl
    have HK := Lib.hid hk
    have HX := Lib.hid hx
    cases rest with
    | nil =>
      obtain rfl : q = m := hl
      have hq := pneq_same q wr
      clear hx hk
      gi_wp2
      go_end0
      exact ⟨⟨_, rfl⟩, .inl ⟨pre, by have := HX.out; simp at this; exact this.symm, hJs⟩⟩
    | cons c rest =>
      have hl0 := hl
      obtain ⟨b, q', rfl, hc, ho, hr⟩ := hl
      have hlen : pre.length < t.length := by have := congrArg List.length hx; simp at this; omega
      have HCB := Lib.hid hc
      have HIN := Lib.hid (show c ∈ t by rw [hx]; simp)
      obtain ⟨fn, tmps, assign, body, hy, hR⟩ := hY pre ⟨(b, c), ⟨q', HCB.out⟩, HIN.out⟩ wr hJs hlen
      have hbI : I b := by obtain ⟨f, hb, _⟩ := hc; exact hb
      have hq : (binOp .neq 46 (.pointer (some ⟨b, 0, none⟩)) (.pointer m)).run Try.prog wr = .ok (.bool true) wr := by
        rcases HMK.out with rfl | ⟨b2, c2, q2, rfl, hc2⟩
        · exact pneq_none _ _
        · have hlt := Chain.lt hl0
          obtain ⟨f, hb, hblk, _⟩ := hc
          obtain ⟨f2, hb2, hblk2, _⟩ := hc2
          refine pneq_other (a := ⟨b, 0, none⟩) (b := ⟨b2, 0, none⟩) wr (fun e => ?_) (hk.blk hblk (.inl hb)) (hk.blk hblk2 (.inl hb2))
          injection e with e
          have : b2 + 1 < b + 1 := hlt
          omega
      have HR := Lib.hid hr
      dsimp only at hy
      clear hx hk hl0 hc hr
      gi_wp2
      refine hR.mono ?_
      rintro e W3 (⟨rfl, hJ3, hk3⟩ | ⟨rfl, hJx3⟩)
      · have hq3 : W3.cell? ⟨b, 2, none⟩ = some (.pointer q') := by
          obtain ⟨f, hb, hblk, _⟩ := HCB.out
          exact ((HK.out.tr hk3).blk hblk (.inl hb)).cell 2 rfl
        have HK3 := Lib.hid (HK.out.tr hk3)
        clear hk3
        gi_wp2
        go_roundw
        case rel => exact ⟨pre ++ [⟨(b, c), ⟨q', HCB.out⟩, HIN.out⟩], rest, q', rfl, by have := HX.out; simp at this ⊢; exact this, HR.out, HK3.out, hJ3⟩
        case measure => show ord q' < b + 1; omega
      · gi_wp2
        refine bodyPost_ret (results_none rfl _ _ _) rfl ?_
        exact ⟨⟨_, rfl⟩, .inr ⟨_, trivial, hJx3⟩⟩
end Jn
end Go.Proofs.Ytogphhhlbofgkaa
