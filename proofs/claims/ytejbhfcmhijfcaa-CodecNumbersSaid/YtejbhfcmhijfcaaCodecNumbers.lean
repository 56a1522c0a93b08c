/-
  The walk of the law CodecNumbers: it returns true, and what was there is as it was.
  Conditions: a word, a slice that reads as bytes, any place.
-/
import Derived.Test.YtejbhfcmhijfcaaAwake
import Derived.Test.YtejbhfcmhijfcaaKept
import Derived.Test.YtejbhfcmhijfcaaRef02b
namespace Go.Proofs.Ytejbhfcmhijfcaa
open Go.RowKit Go.Shelf
set_option linter.unusedVariables false
namespace Cd

set_option maxRecDepth 100000 in
set_option maxHeartbeats 2000000 in
theorem numbersLaw (x : Int) (A : Option Addr) (m c : Nat) (zs : List Int) (at_ : Int) (w : World) (x0 : 0 ≤ x) (x1 : x ≤ 18446744073709551615) (hi : Sl w A m c zs) (hz : ∀ z ∈ zs, 0 ≤ z ∧ z ≤ 255) (hm : m ≤ maxLen) :
    Calls Try.prog 3 #[.int .u64 x, .slice A m c, .int .i64 at_] w fun e w' => e = .returned (.bool true) ∧ Bel w w' := by
  unfold maxLen at hm
  by_cases h300 : 300 < m
  · go_enter Try.func3, Try.ntmps3
    go_wp2_with (go_at_call 8; refine (awake _).mono ?_; rintro e w1 ⟨rfl, h1⟩)
    go_ret
    exact ⟨rfl, h1⟩
  have hm3 : m ≤ 300 := by omega
  have hm4 : (m : Int) ≤ 300 := by omega
  obtain ⟨n, to, er, bad, hway⟩ := way_of zs (bytes_of hz) at_
  have W := Lib.hid hway
  have HB := Lib.hid (bytes_of hz)
  have HI := Lib.hid hi
  have P1 := Lib.hid (fun w' => put x w' x0 x1)
  have P2 := Lib.hid (fun w' => ref_put x w' x0 x1)
  have P3 := Lib.hid (fun w' => size x w' x0 x1)
  have hl := enc_len x
  clear hi hz hway h300 hm x1
  go_enter Try.func3, Try.ntmps3
  go_wp2_with fail
  refine (P1.out _).mono ?_
  rintro e w1 ⟨vp, rfl, op, b1⟩
  have b1 : Bel w w1 := b1
  obtain ⟨Ap, cp, hvp, hp⟩ := sl_of_own op
  subst hvp
  have OP := Lib.hid op
  have HP := Lib.hid hp
  clear op hp
  go_wp2_with fail
  refine (P2.out _).mono ?_
  rintro e w2 ⟨vq, rfl, oq⟩
  have b2 : Bel w w2 := b1.trans oq.2
  have b12 : Hid (Bel w1 w2) := oq.2
  obtain ⟨Aq, cq, rfl, hq⟩ := oq.sl
  have HQ := Lib.hid hq
  clear oq hq
  go_wp2_with fail
  refine (lent A m c zs _ (HI.out.bel b2) (by omega)).mono ?_
  rintro e w3 ⟨vl, rfl, hl3, b3⟩
  have HL := Lib.hid hl3
  have b23 : Hid (Bel w2 w3) := b3
  have b3 : Bel w w3 := b2.trans b3
  obtain ⟨Al, cl, hvl, hsl⟩ := sl_of_own hl3.own
  subst hvl
  have HSL := Lib.hid hsl
  clear hl3 hsl
  go_wp2_with fail
  refine (get Al m cl zs at_ n to er bad _ HSL.out.ints (by omega) HB.out HSL.out.cap W.out).mono ?_
  rintro e w4 ⟨rfl, b4⟩
  have b34 : Hid (Bel w3 (w4.alloc (.cells #[.int .i64 er, .int .i64 bad] 29))) := b4.alloc _
  have b4 : Bel w w4 := b3.trans b4
  go_wp2_with fail
  refine (ref_get A m c zs at_ n to er bad _ (HI.out.bel (b4.alloc _)).ints (by omega) HB.out W.out).mono ?_
  rintro e w5 ⟨rfl, b5⟩
  have b35 : Hid (Bel w3 (w5.alloc (.cells #[.int .i64 er, .int .i64 bad] 29))) := (b34.out.trans b5).alloc _
  have hs4 : w4.heap.size < w5.heap.size := by have := Below.size b5; simp at this; omega
  have hc4 : w5.cell? ⟨w4.heap.size, 0, none⟩ = some (.int .i64 er) := (Below.cell (p := ⟨w4.heap.size, 0, none⟩) b5 (by simp)).trans (by simp)
  have hc5 : w5.cell? ⟨w4.heap.size, 1, none⟩ = some (.int .i64 bad) := (Below.cell (p := ⟨w4.heap.size, 1, none⟩) b5 (by simp)).trans (by simp)
  have b5 : Bel w w5 := (b4.alloc _).trans b5
  have b13 : Hid (Bel w1 (w5.alloc (.cells #[.int .i64 er, .int .i64 bad] 29))) := (b12.out.trans b23.out).trans b35.out
  have b25 : Hid (Bel w2 (w5.alloc (.cells #[.int .i64 er, .int .i64 bad] 29))) := b23.out.trans b35.out
  go_wp2_with fail
  refine (same Ap Aq _ cp _ cq (enc x) _ (HP.out.bel b13.out).ints (HQ.out.bel b25.out).ints).mono ?_
  rintro e w6 ⟨rfl, rfl⟩
  go_wp2_with fail
  refine (P3.out _).mono ?_
  rintro e w7 ⟨rfl, b7⟩
  have b7 : Bel (w5.alloc (.cells #[.int .i64 er, .int .i64 bad] 29)) w7 := b7
  have k1 : w7.cell? ⟨w5.heap.size, 0, none⟩ = some (.int .i64 er) := (Below.cell (p := ⟨w5.heap.size, 0, none⟩) b7 (by simp)).trans (by simp)
  have k2 : w7.cell? ⟨w5.heap.size, 1, none⟩ = some (.int .i64 bad) := (Below.cell (p := ⟨w5.heap.size, 1, none⟩) b7 (by simp)).trans (by simp)
  have k3 : w7.cell? ⟨w4.heap.size, 0, none⟩ = some (.int .i64 er) := (Below.cell (p := ⟨w4.heap.size, 0, none⟩) b7 (by simp; omega)).trans ((Below.cell (p := ⟨w4.heap.size, 0, none⟩) ((Bel.refl w5).alloc _) hs4).trans hc4)
  have k4 : w7.cell? ⟨w4.heap.size, 1, none⟩ = some (.int .i64 bad) := (Below.cell (p := ⟨w4.heap.size, 1, none⟩) b7 (by simp; omega)).trans ((Below.cell (p := ⟨w4.heap.size, 1, none⟩) ((Bel.refl w5).alloc _) hs4).trans hc5)
  have b17 : Hid (Bel w1 w7) := b13.out.trans b7
  have b37 : Hid (Bel w3 w7) := b35.out.trans b7
  have hw7 : Bel w w7 := (b5.alloc _).trans b7
  clear hc4 hc5 b7
  go_wp2_with fail
  refine (over_any w.heap.size _ _ _ _ (by omega) (owns_bel OP.out b17.out)).mono ?_
  rintro e w8 ⟨rfl, k8⟩
  have hw8 : Bel w w8 := Kep.bel hw7 k8 (fun k hk => (OP.out.lt k hk).1)
  have HL8 : Hid (Lent w2.heap.size w8 (.slice Al m cl) m zs) := (HL.out.bel b37.out).kep k8 (fun k hk hs => by
    have h1 := (HL.out.own.lt k hk).1
    have h2 := (OP.out.lt k hs).2
    have h3 := Below.size b12.out
    omega)
  clear k8
  go_wp2_with fail
  refine (kept w2.heap.size _ A m c zs _ HL8.out (HI.out.bel hw8).ints (by omega)).mono ?_
  rintro e w9 ⟨rfl, b9⟩
  have hw9 : Bel w w9 := hw8.trans b9
  clear b9
  go_wp2_with fail
  refine (awake _).mono ?_
  rintro e w10 ⟨rfl, b10⟩
  go_wp2
  go_ret
  exact ⟨rfl, hw9.trans b10⟩
end Cd
end Go.Proofs.Ytejbhfcmhijfcaa
