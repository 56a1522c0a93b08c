/-
  A range over a function whose iterator keeps its state in a cell of its own (a captured variable that it stores into between two rounds): what the caller owes.
  No condition beside those that are named.
-/
import Derived.RangeFuncWrites
import Derived.RangeFuncNested
import Derived.Test.YtpohcdfmkcfonaaGreatDoorGPMem
namespace Go.Proofs.YtpohcdfmkcfonaaGreatDoor
open Go.RowKit Go.Shelf
set_option linter.unusedVariables false
namespace Pm

/-- What such an iterator promises: as SeqStopsK, of all J and Jx that do not mind what lies in the cell Bs. -/
def GivesB {α : Type} (F : Fence) (n : Nat) (P : Program) (g : Nat) (lb : Array Value) (encs : α → Array Value) (Kp : World → World → Prop) (Bs : Nat) (Ok : α → Prop) (S Sp : List α → Prop) (N : Nat) (w : World) : Prop :=
  ∀ (l : Nat) (J Jx : List α → World → Prop) (W : World), Below w.heap.size w W → (∀ s V v, J s V → J s (V.setCell ⟨Bs, 0, none⟩ v)) →
    (∀ pre x V, J pre V → pre.length < N → Ok x → YieldAt F (n - 1) P l (encs x) V fun e V' => (e = .returned (.bool true) ∧ J (pre ++ [x]) V' ∧ Kp V V') ∨ (e = .returned (.bool false) ∧ Jx (pre ++ [x]) V')) →
    J [] W → CallsIn F n P g (#[.func (.yield l) #[] #[]] ++ lb) W fun e V => (∃ v, e = .returned v) ∧ ((∃ xs, S xs ∧ J xs V) ∨ (∃ pre, Sp pre ∧ Jx pre V))

set_option maxHeartbeats 2000000 in
theorem rangeFunc_box {α : Type} {F : Fence} {n : Nat} {P : Program} {g : Operand} {ps : Array Tmp} {assign body : Code} {Q : Exit → Act → World → Prop} {a : Act} {w : World}
    (hro : F.round = none) (h1 : 1 ≤ n) {gf : Nat} {lb : Array Value} (hg : a.eval g = .func (.func gf) #[] lb) (hFg : F.fn gf) (eg : ∀ args w, (callFunc gf args).run P w = .ok (.enter gf args) w)
    {encs : α → Array Value} {Kp : World → World → Prop} {Bs : Nat} {Ok : α → Prop} {S Sp : List α → Prop} {N : Nat} {w0 : World} (hBs : Bs < w.heap.size) (hseq : GivesB F (n - 1) P gf lb encs Kp Bs Ok S Sp N w0)
    (hKt : ∀ {A B C : World}, Kp A B → Kp B C → Kp A C) (hKb : ∀ (W : World) (l : Nat) (o : Obj), w.heap.size ≤ l → Kp W (W.putObj l o)) (hb0 : Below w0.heap.size w0 w) (hps : ∀ x, (encs x).size = ps.size)
    (I : List α → World → Prop) (Ix : Code → List α → World → Prop) (hI : OwnFrom w.heap.size I) (hIx : ∀ c, OwnFrom w.heap.size (Ix c)) (hIs : ∀ s V v, I s V → I s (V.setCell ⟨Bs, 0, none⟩ v)) (h0 : I [] w) (a₁ : α → Act)
    (hassign : ∀ (l : Nat) (x : α) (W : World) (K : Act → World → Prop), K (a₁ x) W →
      assign.wpIn (F.inRound l) (n - 1 - 1) P (Exit.then K (fun _ _ _ => False)) { tmps := (ps.zip (encs x)).foldl (fun t (p, v) => t.setIfInBounds p v) a.tmps, defers := [] } W)
    (hbody : ∀ (l : Nat) (pre : List α) (x : α) (W : World), I pre W → pre.length < N → Ok x → body.wpIn (F.inRound l) (n - 1 - 1) P (ownPostG w.heap.size Kp I Ix (pre ++ [x]) W) (a₁ x) W)
    (hdone : ∀ (D : Nat) (xs : List α) (W : World), w.heap.size ≤ D → S xs → I xs W → W.heap[D]? = some (.deferred (some [])) → Q .normal { a with defers := { target := .collected D, args := #[] } :: a.defers } W)
    (hstop : ∀ (D : Nat) (c : Code) (pre : List α) (W : World), w.heap.size ≤ D → Sp pre → Ix c pre W → W.heap[D]? = some (.deferred (some [])) → c.wpIn F n P Q { a with defers := { target := .collected D, args := #[] } :: a.defers } W) :
    (Code.rangeFunc g ps assign body).wpIn F n P Q a w := by
  refine wpIn_rangeFunc fun fn hfn => ?_
  rw [hro]
  -- the loop's record, and the world in which the iterator begins
  let R : LoopState → Option Code → Loop := fun st pe => { state := st, pending := pe, fn, tmps := a.tmps, params := ps, assign, body, defers := w.heap.size }
  let L : Nat := w.heap.size + 1
  let V0 : World := (w.alloc (.deferred (some []))).alloc (.loop (R .ready none))
  have hL0 : V0.heap[L]? = some (.loop (R .ready none)) := by
    have := World.alloc_heap_new (w.alloc (.deferred (some []))) (.loop (R .ready none))
    rwa [World.size_alloc] at this
  have hD0 : V0.heap[w.heap.size]? = some (.deferred (some [])) := (Below.heap_alloc _ _ _ (by simp)).trans (World.alloc_heap_new w _)
  have hI0 : I [] V0 := hI.alloc _ (hI.alloc _ h0)
  have hB0 : Below w0.heap.size w0 V0 := hb0.trans ((((Below.refl _ w).alloc (Nat.le_refl _) _).alloc (by simp) _).mono hb0.size)
  -- what is true between two rounds, and once a round has left
  let J : List α → World → Prop := fun pre V => I pre V ∧ V.heap[L]? = some (.loop (R .ready none)) ∧ V.heap[w.heap.size]? = some (.deferred (some []))
  let Jx : List α → World → Prop := fun pre V => ∃ c, Ix c pre V ∧ V.heap[L]? = some (.loop (R .done (some c))) ∧ V.heap[w.heap.size]? = some (.deferred (some []))
  have hJs : ∀ s V v, J s V → J s (V.setCell ⟨Bs, 0, none⟩ v) := fun s V v h =>
    ⟨hIs s V v h.1, (Below.heap_setCell V ⟨Bs, 0, none⟩ v L (by show L ≠ Bs; omega)).trans h.2.1, (Below.heap_setCell V ⟨Bs, 0, none⟩ v w.heap.size (by show w.heap.size ≠ Bs; omega)).trans h.2.2⟩
  refine ⟨L, [{ target := .collected w.heap.size, args := #[] }], V0, { target := .fn (.func gf) lb, args := #[.func (.yield L) #[] #[]] }, V0, gf, #[.func (.yield L) #[] #[]] ++ lb, V0, run_enterLoop_outer _ _ _ _ _, ?_, ?_, ?_, fun _ => h1, ?_⟩
  · simp only [resolve, hg]
    simp [go_sem]
  · intro f' hf'
    simp [Target.leads] at hf'
    subst hf'
    exact hFg
  · simp [invoke, go_sem, eg]
  refine (hseq L J Jx V0 hB0 hJs ?_ ⟨hI0, hL0, hD0⟩).mono ?_
  · rintro pre x V ⟨hi, hl, hk⟩ hlen hok
    have hlt : L < V.heap.size := (Array.getElem?_eq_some_iff.1 hl).1
    have hy := run_yield (P := P) (args := encs x) hl (hps x)
    refine ⟨fn, _, assign, body, hy, roundIn_of_wpIn hfn (hassign _ x V _ ⟨_, run_beginRound hl rfl, ?_⟩)⟩
    obtain ⟨V2, hV2⟩ : ∃ V2, V.putObj L (.loop { R .ready none with state := .busy }) = V2 := ⟨_, rfl⟩
    have hl2 : V2.heap[L]? = some (.loop { R .ready none with state := .busy }) := by rw [← hV2]; exact World.putObj_heap_same hlt
    have hk2 : V2.heap[w.heap.size]? = some (.deferred (some [])) := by rw [← hV2]; exact (World.putObj_heap_other (by omega)).trans hk
    have hw2 : Kp V V2 := by rw [← hV2]; exact hKb _ _ _ (by omega)
    have hi2 : I pre V2 := by rw [← hV2]; exact hI.putObj _ hi (by omega) hl rfl
    rw [hV2]
    -- how a round ends, whatever it leaves by
    have fin : ∀ (jump : Option Code) (V3 : World), KeepsFrom w.heap.size V2 V3 → ∃ V4, V4 = V3.putObj L (.loop (R (if jump.isNone then .ready else .done) jump)) ∧ (Instr.endRound L jump).run P V3 = .ok (.bool jump.isNone) V4 ∧
        V3.heap[L]? = some (.loop { R .ready none with state := .busy }) ∧ V4.heap[L]? = some (.loop (R (if jump.isNone then .ready else .done) jump)) ∧ V4.heap[w.heap.size]? = some (.deferred (some [])) := fun jump V3 h3 => by
      have hl3 := h3.same _ _ (by omega) hl2 rfl
      exact ⟨_, rfl, run_endRound (P := P) jump hl3, hl3, World.putObj_heap_same (Array.getElem?_eq_some_iff.1 hl3).1, (World.putObj_heap_other (by omega)).trans (h3.same _ _ (Nat.le_refl _) hk2 rfl)⟩
    have left : ∀ (c : Code) (V3 : World), KeepsFrom w.heap.size V2 V3 → Ix c (pre ++ [x]) V3 → ∃ V4, (Instr.endRound L (some c)).run P V3 = .ok (.bool false) V4 ∧ Jx (pre ++ [x]) V4 := fun c V3 h3 hx => by
      obtain ⟨V4, e4, hr, hl3, hl4, hk4⟩ := fin (some c) V3 h3
      exact ⟨V4, hr, c, by rw [e4]; exact (hIx c).putObj _ hx (by omega) hl3 rfl, hl4, hk4⟩
    refine wpIn_mono (hbody _ pre x V2 hi2 hlen hok) ?_
    rintro e a3 V3 hp
    cases e with
    | normal =>
      obtain ⟨h3, hkp, hi3⟩ := hp
      obtain ⟨V4, e4, hr, hl3, hl4, hk4⟩ := fin none V3 h3
      exact ⟨_, _, hr, .inl ⟨rfl, ⟨by rw [e4]; exact hI.putObj _ hi3 (by omega) hl3 rfl, hl4, hk4⟩, hKt (hKt hw2 hkp) (by rw [e4]; exact hKb _ _ _ (by omega))⟩⟩
    | ret =>
      obtain ⟨V4, hr, hj⟩ := left _ V3 hp.1 hp.2
      exact ⟨_, _, hr, .inr ⟨rfl, hj⟩⟩
    | exit id =>
      obtain ⟨V4, hr, hj⟩ := left _ V3 hp.1 hp.2
      exact ⟨_, _, hr, .inr ⟨rfl, hj⟩⟩
    | goto t =>
      obtain ⟨V4, hr, hj⟩ := left _ V3 hp.1 hp.2
      exact ⟨_, _, hr, .inr ⟨rfl, hj⟩⟩
    | panic ch => exact hp.elim
    | outgrown => exact hp.elim
  · rintro e V ⟨⟨v, rfl⟩, (⟨xs, hS, hi, hl, hk⟩ | ⟨pre, hSp, c, hi, hl, hk⟩)⟩
    · exact ⟨none, _, run_endLoop (P := P) hl (by simp [R]), hdone _ xs _ (Nat.le_refl _) hS (hI.putObj _ hi (by omega) hl rfl) ((World.putObj_heap_other (by omega)).trans hk)⟩
    · exact ⟨some c, _, run_endLoop (P := P) hl (by simp [R]), hstop _ c pre _ (Nat.le_refl _) hSp ((hIx c).putObj _ hi (by omega) hl rfl) ((World.putObj_heap_other (by omega)).trans hk)⟩
end Pm
end Go.Proofs.YtpohcdfmkcfonaaGreatDoor
