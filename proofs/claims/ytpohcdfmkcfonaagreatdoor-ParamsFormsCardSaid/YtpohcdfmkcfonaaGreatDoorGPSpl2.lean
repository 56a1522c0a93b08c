/-
  What strings.SplitAfterSeq hands back at a line feed, and what that iterator promises. Condition: the text has at most 10^9 bytes.
-/
import Derived.Test.YtpohcdfmkcfonaaGreatDoorGPSpl
namespace Go.Proofs.YtpohcdfmkcfonaaGreatDoor
open Go.RowKit Go.Shelf
set_option linter.unusedVariables false
namespace Pm
open Kk

/-- The iterator, and its three boxes, new. -/
def SplE (s : List UInt8) (w : World) (e : Ending) (w' : World) : Prop :=
  e = .returned (.func (.func 76) #[] #[.pointer (some ⟨w.heap.size + 1, 0, none⟩), .pointer (some ⟨w.heap.size, 0, none⟩), .pointer (some ⟨w.heap.size + 2, 0, none⟩)]) ∧ Bxs (w.heap.size + 1) w.heap.size (w.heap.size + 2) s w' ∧ Bel w w'

set_option maxRecDepth 100000 in
set_option maxHeartbeats 1000000 in
theorem splitSeq (s : List UInt8) (w : World) : Calls Tryz.prog 54 #[.string (str s), .string ⟨#[10]⟩, .int .i64 1] w (SplE s w) := by
  have b2 := ((Blk.new w #[.string (str s)] 9).alloc (.cells #[.string ⟨#[10]⟩] 9)).alloc (.cells #[.int .i64 1] 3)
  have b1 := (Blk.new (w.alloc (.cells #[.string (str s)] 9)) #[.string ⟨#[10]⟩] 9).alloc (.cells #[.int .i64 1] 3)
  have b3 := Blk.new ((w.alloc (.cells #[.string (str s)] 9)).alloc (.cells #[.string ⟨#[10]⟩] 9)) #[.int .i64 1] 3
  rw [World.size_alloc] at b1
  rw [World.size_alloc, World.size_alloc] at b3
  have H := Lib.hid (show Bxs (w.heap.size + 1) w.heap.size (w.heap.size + 2) s _ from ⟨b1, b2, b3⟩)
  clear b1 b2 b3
  obtain ⟨S, hS⟩ : ∃ S, str s = S := ⟨_, rfl⟩
  rw [hS]
  have HS := Lib.hid hS
  clear hS
  go_enter Tryz.func54, Tryz.ntmps54
  go_wp2
  go_ret
  refine ⟨rfl, ?_, (((Bel.refl w).alloc _).alloc _).alloc _⟩
  rw [← HS.out]
  exact H.out

set_option maxRecDepth 100000 in
set_option maxHeartbeats 1000000 in
theorem splitAfter (s : List UInt8) (w : World) : Calls Tryz.prog 29 #[.string (str s), .string ⟨#[10]⟩] w (SplE s w) := by
  have SP := Lib.hid (splitSeq s w)
  obtain ⟨S, hS⟩ : ∃ S, str s = S := ⟨_, rfl⟩
  rw [hS] at SP ⊢
  clear hS
  go_enter Tryz.func29, Tryz.ntmps29
  go_wp2_with fail
  refine SP.out.mono ?_
  rintro e w1 ⟨rfl, hb, hk⟩
  have HB := Lib.hid hb
  have HK := Lib.hid hk
  clear hb hk
  go_wp2_with fail
  go_ret
  exact ⟨rfl, HB.out, HK.out⟩

/-- What the iterator promises. -/
theorem gives (n b1 b2 b3 : Nat) (h12 : b1 ≠ b2) (h32 : b3 ≠ b2) (s : List UInt8) (hs : s.length ≤ 1000000000) (w : World) (hb : Bxs b1 b2 b3 s w) :
    GivesB Fence.wide n Tryz.prog 76 #[.pointer (some ⟨b1, 0, none⟩), .pointer (some ⟨b2, 0, none⟩), .pointer (some ⟨b3, 0, none⟩)] (fun x : List UInt8 => #[Value.string (str x)]) (KpB b1 b2 b3) b2 (fun x => x.length ≤ 1000000000) (fun ys => ys = pcs s.length s) (fun pre => pre <+: pcs s.length s) (pcs s.length s).length w :=
  fun l J Jx W hW hJs hY h0 => splits n l b1 b2 b3 h12 h32 s hs J Jx hJs hY W (hb.bel hW) h0
theorem KpB.tr {b1 b2 b3 : Nat} {A B C : World} (h : KpB b1 b2 b3 A B) (k : KpB b1 b2 b3 B C) : KpB b1 b2 b3 A C := fun i hi => (k i hi).trans (h i hi)
theorem KpB.put {b1 b2 b3 m : Nat} (h1 : b1 < m) (h2 : b2 < m) (h3 : b3 < m) (W : World) (l : Nat) (o : Obj) (hl : m ≤ l) : KpB b1 b2 b3 W (W.putObj l o) := fun i hi => World.putObj_heap_other (by omega)
theorem KpB.kep {S : Nat → Prop} {b1 b2 b3 : Nat} {A B : World} (h : Kep S A B) (h1 : b1 < A.heap.size) (h2 : b2 < A.heap.size) (h3 : b3 < A.heap.size) (s1 : ¬ S b1) (s2 : ¬ S b2) (s3 : ¬ S b3) : KpB b1 b2 b3 A B := fun i hi => by
  rcases hi with rfl | rfl | rfl
  · exact h.block _ h1 s1
  · exact h.block _ h2 s2
  · exact h.block _ h3 s3
end Pm
end Go.Proofs.YtpohcdfmkcfonaaGreatDoor
