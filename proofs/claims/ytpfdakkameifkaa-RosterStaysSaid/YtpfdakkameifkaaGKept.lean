/-
  What distraintkit.KeptBytes answers in this program of bytes that were lent and left alone: true.
  Conditions: at most 10^9 bytes.
-/
import Derived.BigRegion
import Derived.Test.YtpfdakkameifkaaGKit
namespace Go.Proofs.Ytpfdakkameifkaa
open Go.RowKit Go.Shelf
set_option linter.unusedVariables false
namespace Cd

set_option maxRecDepth 100000 in
set_option maxHeartbeats 2000000 in
theorem kept (base : Nat) (v : Value) (B : Option Addr) (n d : Nat) (zs : List Int) (w : World) (hl : Lent base w v n zs) (hb : Ints .u8 w B n zs) (hn : n ≤ 1000000000) :
    Calls Try.prog 45 #[v, .slice B n d] w fun e w' => e = .returned (.bool true) ∧ Bel w w' := by
  have hw0 := hl.own
  obtain ⟨g, c, rfl, hc1, hc2, hrow⟩ := hl.row
  obtain ⟨A', c', e', hiA, _, _⟩ := ints_of_own hw0
  obtain ⟨A2, c2', e2', hiW, _, _⟩ := ints_of_own hrow
  injection e' with e1 _ e3
  injection e2' with e4 _ e5
  subst e1 e3 e4 e5
  unfold maxLen at hc2
  have hcl := hl.len
  obtain ⟨A3, hs, hi3⟩ := head_ (some ⟨g, 0, none⟩) (n + 4) c n 4 (zs ++ [201, 202, 203, 204]) w hiW (by omega) (by omega)
  have hz3 : ((zs ++ [201, 202, 203, 204]).drop n).take 4 = [201, 202, 203, 204] := by
    rw [List.drop_left' hcl]; rfl
  rw [hz3] at hi3
  rw [show ((n + 4 : Nat) : Int) = (n : Int) + 4 by omega] at hs
  have hs' : ∀ w' : World, (Instr.slice 47 (.slice (some ⟨g, 0, none⟩) c c) (some (.int .i64 (n : Int))) (some (.int .i64 ((n : Int) + 4))) none).run Try.prog w' = .ok (.slice A3 4 (c - n)) w' := by
    intro w'
    have h := hs w'
    rw [slice_lh _ _ _ _ _ _ (by omega) (by omega) (by omega)] at h ⊢
    exact h
  have c1 := conv (hiA.bel ((Bel.refl w).drew)) (c := c)
  have c2 := conv (hb.bel ((Bel.refl w).drew)) (c := d)
  have c3 := conv (hi3.bel ((Bel.refl w).drew)) (c := c - n)
  have c4 := conv (hi3.bel (((Bel.refl w).alloc (.cells #[.int .u8 201, .int .u8 202, .int .u8 203, .int .u8 204] 5)).drew)) (c := c - n)
  have c5 : (convert 47 9 (.slice (some ⟨w.heap.size, 0, none⟩) 4 4)).run Try.prog (w.alloc (.cells #[.int .u8 201, .int .u8 202, .int .u8 203, .int .u8 204] 5)).drew = .ok (.string (strOfNums [201, 202, 203, 204])) (w.alloc (.cells #[.int .u8 201, .int .u8 202, .int .u8 203, .int .u8 204] 5)).drew := conv ((sl_lit w [201, 202, 203, 204]).ints.bel ((Bel.refl _).drew)) (c := 4)
  generalize strOfNums zs = s1 at *
  generalize hs4 : strOfNums [201, 202, 203, 204] = s4 at *
  clear hs hs4 hz3 hi3 hiW hiA hrow hw0 hb hl hcl
  have hc : c ≤ 9223372036854775807 := by omega
  have h4 : (n : Int) + 4 ≤ (c : Int) := by omega
  clear hc2
  go_enter Try.func45, Try.ntmps45
  go_wp2
  go_region
  all_goals
    go_wp2
    go_ret
    exact ⟨rfl, ((Bel.refl _).alloc _).drew⟩
end Cd
end Go.Proofs.Ytpfdakkameifkaa
