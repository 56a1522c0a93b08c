/-
  What Hash of a writer and of a reader answer in this program.
  Conditions: objects that were made; a hash of 32 bytes.
-/
import Derived.Deep.MidRow
import Derived.Test.YtpfdakkameifkaaGWriter2
import Derived.Test.YtpfdakkameifkaaGReader6
namespace Go.Proofs.Ytpfdakkameifkaa
open Go.RowKit Go.Shelf
set_option linter.unusedVariables false
namespace Cd

/-- A hash, as the program keeps it: 32 bytes. -/
abbrev hash (hs : List Int) : Value := .agg (hs.map (Value.int .u8)).toArray

theorem sl_box (w : World) (hs : List Int) (t : TypeId) (h : hs.length = 32) : Sl (w.alloc (.cells (hs.map (Value.int .u8)).toArray t)) (some ⟨w.heap.size, 0, none⟩) 32 32 hs := by
  refine ⟨⟨h, fun hn => ⟨w.heap.size, 0, rfl, by simp, fun i hi => ?_⟩⟩, Nat.le_refl _, fun h => by cases h⟩
  rw [Nat.zero_add, World.cell?_alloc_new, List.getElem?_toArray, List.getElem?_map, List.getElem?_eq_getElem (by omega), getD_eq _ _ (by omega)]
  rfl

theorem zero_hash : (List.replicate 32 (0 : Int)).map (Value.int .u8) = List.replicate 32 (Value.int .u8 0) := by simp

theorem range_new {w : World} {C : Array Value} {t : TypeId} : (w.alloc (.cells C t)).rangeAt w.heap.size 0 C.toList := fun j v hv => by
  rw [Nat.zero_add]
  exact (Blk.new w C t).cell j (by simpa using hv)
theorem there_new {w : World} {C : Array Value} {t : TypeId} {n : Nat} (h : n ≤ C.size) : (w.alloc (.cells C t)).there w.heap.size 0 n := fun j hj => by
  rw [Nat.zero_add]
  refine ⟨?_, (Blk.new w C t).frozen j⟩
  rw [(Blk.new w C t).cell j (Array.getElem?_eq_getElem (by omega))]
  rfl
theorem cell_far {w : World} {b : Nat} {vs : List Value} {c o : Nat} {v : Value} (h : w.cell? ⟨c, o, none⟩ = some v) (hne : c ≠ b) : (w.setCells b 0 vs).cell? ⟨c, o, none⟩ = some v := by
  have h1 : w.rangeAt c o [v] := fun j u hu => by
    match j, hu with
    | 0, hu => simp at hu; subst hu; exact h
  have := World.rangeAt_setCells_apart h1 b 0 vs (.inl hne) 0 v rfl
  simpa using this
theorem frozen_far {w : World} {b : Nat} {vs : List Value} {c o : Nat} {v : Value} (h : w.cell? ⟨c, o, none⟩ = some v) (hf : w.frozen? ⟨c, o, none⟩ = false) : (w.setCells b 0 vs).frozen? ⟨c, o, none⟩ = false := by
  have h1 : w.there c o 1 := fun j hj => by
    obtain rfl : j = 0 := by omega
    exact ⟨by rw [Nat.add_zero, h]; rfl, hf⟩
  have := (World.there_setCells h1 b 0 vs 0 (by omega)).2
  simpa using this
theorem kep_setCells (b : Nat) : ∀ (vs : List Value) (o : Nat) (w : World), Kep (fun i => i = b) w (w.setCells b o vs) := by
  intro vs
  induction vs with
  | nil => intro o w; exact Kep.refl _ _
  | cons v vs ih => intro o w; exact (Kep.set_self (Kep.refl _ w) o v).trans (ih (o + 1) _)

theorem range_kep {S : Nat → Prop} {w w' : World} {b o : Nat} {cs : List Value} (h : w.rangeAt b o cs) (hk : Kep S w w') (hs : ¬ S b) : w'.rangeAt b o cs := fun j v hv => hk.cell hs (h j v hv)
theorem range_set {w : World} {b o : Nat} {cs : List Value} (h : w.rangeAt b o cs) {c : Nat} (hne : b ≠ c) (i : Nat) (u : Value) : (w.setCell ⟨c, i, none⟩ u).rangeAt b o cs := range_kep h (Kep.set_self (Kep.refl _ w) i u) hne
abbrev Z32 : Array Value := #[.int .u8 0, .int .u8 0, .int .u8 0, .int .u8 0, .int .u8 0, .int .u8 0, .int .u8 0, .int .u8 0, .int .u8 0, .int .u8 0, .int .u8 0, .int .u8 0, .int .u8 0, .int .u8 0, .int .u8 0, .int .u8 0, .int .u8 0, .int .u8 0, .int .u8 0, .int .u8 0, .int .u8 0, .int .u8 0, .int .u8 0, .int .u8 0, .int .u8 0, .int .u8 0, .int .u8 0, .int .u8 0, .int .u8 0, .int .u8 0, .int .u8 0, .int .u8 0]
theorem z32 : Z32 = ((List.replicate 32 (0 : Int)).map (Value.int .u8)).toArray := by rfl

theorem results_cic {fn : Func} {p q s : Tmp} {tp ts : TypeId} (h : fn.results = #[.cell p tp, .tmp q, .cell s ts]) (tmps : Array Value) (w : World) (a c : Addr) (X Y U : Value)
    (hp : tmps.getD p undef = .pointer (some a)) (hs : tmps.getD s undef = .pointer (some c)) (hq : tmps.getD q undef = U) (hX : (loadVar tp a).run Try.prog w = .ok X w) (hY : (loadVar ts c).run Try.prog w = .ok Y w) :
    (results fn tmps).run Try.prog w = .ok (.tuple #[X, U, Y]) w := by
  have hp' : tmps[p]?.getD undef = .pointer (some a) := by simpa using hp
  have hs' : tmps[s]?.getD undef = .pointer (some c) := by simpa using hs
  have hq' : tmps[q]?.getD undef = U := by simpa using hq
  simp [results, h, hp', hs', hq', asAddr, hX, hY]
theorem load_fault {w : World} {b : Nat} {e p : Int} (h0 : w.cell? ⟨b, 0, none⟩ = some (.int .i64 e)) (h1 : w.cell? ⟨b, 1, none⟩ = some (.int .i64 p)) : (loadVar 54 ⟨b, 0, none⟩).run Try.prog w = .ok (.agg #[.int .i64 e, .int .i64 p]) w :=
  run_loadVar_mid (P := Try.prog) w b 0 54 [.int .i64 e, .int .i64 p] _ (fun j v hv => by
    match j, hv with
    | 0, hv => simp at hv; subst hv; exact h0
    | 1, hv => simp at hv; subst hv; exact h1) Try.underlying54 rfl (by kernel_rfl)

end Cd
end Go.Proofs.Ytpfdakkameifkaa
