/-
  Great numbers, as the walks of active have them. Conditions: words.
-/
import Derived.Test.YtmbodfmdaocppaaGreat5
import Derived.Test.YtmbodfmdaocppaaKMem
namespace Go.Proofs.Ytmbodfmdaocppaa
open Go.RowKit Go.Shelf
set_option linter.unusedVariables false
namespace AcG
open Gt
theorem great_ (N : Int) (w : World) (n0 : 0 ≤ N) (n1 : N ≤ 18446744073709551615) : Calls Try.prog 29 #[.int .u64 N] w fun e w' => ∃ v, e = .returned v ∧ Gr w' v N 4 ∧ Kk.Bel w w' := great N w n0 n1
theorem keep {w w' : World} {v : Value} {P : Int} {L : Nat} (h : Gr w v P L) (hb : Kk.Bel w w') : Gr w' v P L := h.bel hb
theorem times_ (v u : Value) (P Q : Int) (L M : Nat) (w : World) (hp : Gr w v P L) (hq : Gr w u Q M) (hL : L ≤ 100000) (hM : M ≤ 100000) : Calls Try.prog 28 #[v, u] w fun e w' => ∃ r, e = .returned r ∧ Gr w' r (P * Q) (L + M + 1) ∧ Kk.Bel w w' := Gt.times v u P Q L M w hp hq hL hM
theorem sum_ (v u : Value) (P Q : Int) (L M : Nat) (w : World) (hp : Gr w v P L) (hq : Gr w u Q M) (hL : L ≤ 100000) (hM : M ≤ 100000) : Calls Try.prog 32 #[v, u] w fun e w' => ∃ r, e = .returned r ∧ Gr w' r (P + Q) (L + M + 1) ∧ Kk.Bel w w' := Gt.sum v u P Q L M w hp hq hL hM
theorem less_ (v u : Value) (P Q : Int) (L M : Nat) (b : Bool) (w : World) (hp : Gr w v P L) (hq : Gr w u Q M) (hL : L ≤ 100000) (hM : M ≤ 100000) (hb : decide (P < Q) = b) : Calls Try.prog 30 #[v, u] w fun e w' => e = .returned (.bool b) ∧ Kk.Bel w w' := by
  rw [← hb]; exact Gt.less v u P Q L M w hp hq hL hM
theorem thrice_ (N : Int) (w : World) (n0 : 0 ≤ N) (n1 : N ≤ 18446744073709551615) : Calls Try.prog 31 #[.int .u64 N] w fun e w' => ∃ v, e = .returned v ∧ Gr w' v (N * 3) 9 ∧ Kk.Bel w w' := by
  have C1 := Lib.hid (great_ N w n0 n1)
  go_enter Try.func31, Try.ntmps31
  go_wp2_with fail
  refine C1.out.mono ?_
  rintro e w1 ⟨v1, rfl, g1, kb⟩
  have K1 := Lib.hid kb
  have G1 := Lib.hid g1
  have C2 := Lib.hid (great_ 3 w1 (by decide) (by decide))
  clear kb g1 C1
  go_wp2_with fail
  refine C2.out.mono ?_
  rintro e w2 ⟨v2, rfl, g2, kb⟩
  have K2 := Lib.hid (K1.out.trans kb)
  have C3 := Lib.hid (times_ v1 v2 N 3 4 4 w2 (keep G1.out kb) g2 (by decide) (by decide))
  clear kb g2 C2
  go_wp2_with fail
  refine C3.out.mono ?_
  rintro e w3 ⟨v3, rfl, g3, kb⟩
  have K3 := Lib.hid (K2.out.trans kb)
  have G3 := Lib.hid g3
  clear kb g3 C3
  go_wp2_with fail
  go_ret
  exact ⟨_, rfl, G3.out, K3.out⟩
end AcG
end Go.Proofs.Ytmbodfmdaocppaa
