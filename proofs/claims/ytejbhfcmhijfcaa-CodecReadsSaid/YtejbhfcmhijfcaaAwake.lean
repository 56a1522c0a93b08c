/-
  What the small helpers of the laws of codec answer in this program: true, of a number's own bytes and of what Get answers.
  Conditions: words; slices that read as bytes, of at most 10^9 of them.
-/
import Derived.Test.YtejbhfcmhijfcaaKit
namespace Go.Proofs.Ytejbhfcmhijfcaa
open Go.RowKit Go.Shelf
set_option linter.unusedVariables false
namespace Cd

theorem puts (x : Int) (A : Option Addr) (n c : Nat) (w : World) (x0 : 0 ≤ x) (x1 : x ≤ 18446744073709551615) (hi : Ints .u8 w A n (enc x)) :
    Calls Try.prog 38 #[.int .u64 x, .slice A n c] w fun e w' => e = .returned (.bool true) ∧ Bel w w' := by
  have P1 := Lib.hid (fun w' => put x w' x0 x1)
  have P2 := Lib.hid (fun w' => size x w' x0 x1)
  have HI := Lib.hid hi
  have HL := Lib.hid hi.1
  clear hi x1
  go_enter Try.func38, Try.ntmps38
  go_wp2_with fail
  refine (P1.out _).mono ?_
  rintro e w1 ⟨v, rfl, ho, hb⟩
  obtain ⟨A', c', rfl, hv⟩ := sl_of_own ho
  have hb1 : Bel w w1 := hb
  have HV := Lib.hid hv.ints
  rw [HL.out] at HV
  rw [HL.out]
  clear ho hv hb
  go_wp2_with fail
  refine (same A' A n c' n c _ _ HV.out (HI.out.bel hb1)).mono ?_
  rintro e w2 ⟨rfl, rfl⟩
  go_wp2_with fail
  refine (P2.out _).mono ?_
  rintro e w2 ⟨rfl, hb2⟩
  have hb3 : Bel w w2 := hb1.trans hb2
  rw [HL.out]
  clear hb2
  go_wp2
  go_ret
  exact ⟨by simp, hb3⟩

theorem gets (A : Option Addr) (n c : Nat) (zs : List Int) (at_ x to e bad : Int) (w : World) (hi : Ints .u8 w A n zs) (hn : n ≤ 1000000000) (hb : Bytes zs) (hc : n ≤ c) (hw : Way zs at_ x to e bad) :
    Calls Try.prog 39 #[.slice A n c, .int .i64 at_, .int .u64 x, .int .i64 to, .int .i64 e, .int .i64 bad] w fun r w' => r = .returned (.bool true) ∧ Bel w w' := by
  have G := Lib.hid (fun w' (h : Bel w w') => get A n c zs at_ x to e bad w' (hi.bel h) hn hb hc hw)
  clear hi hn hb hc hw
  go_enter Try.func39, Try.ntmps39
  go_wp2_with fail
  refine (G.out _ (Bel.refl _)).mono ?_
  rintro r w1 ⟨rfl, hb1⟩
  go_wp2
  go_ret
  exact ⟨rfl, hb1.alloc _⟩

theorem way_300 : Way [172, 2] 0 300 2 0 0 := .inr (.inr ⟨0, 1, rfl, by decide, by decide, by decide, by decide, by decide, by decide, by decide, rfl, rfl, rfl⟩)
theorem way_bad : Way [128, 0] 0 0 0 5 0 := .inr (.inl ⟨0, rfl, by decide, rfl, rfl, rfl, .inr (.inr ⟨rfl, 1, by decide, by decide, by decide, by decide, by decide, .inl (by decide)⟩)⟩)
theorem way_none : Way [] 0 0 0 6 0 := .inr (.inl ⟨0, rfl, by decide, rfl, rfl, rfl, .inl ⟨rfl, by decide, by intro i h; simp at h⟩⟩)
theorem enc_0 : enc 0 = [0] := by decide
theorem enc_300 : enc 300 = [172, 2] := by decide
theorem bytes_2 : Bytes [172, 2] := bytes_of (by decide)
theorem bytes_80 : Bytes [128, 0] := bytes_of (by decide)
theorem bytes_nil : Bytes [] := bytes_of (by decide)

set_option maxRecDepth 100000 in
set_option maxHeartbeats 1000000 in
theorem awake (w : World) : Calls Try.prog 8 #[] w fun e w' => e = .returned (.bool true) ∧ Bel w w' := by
  go_enter Try.func8, Try.ntmps8
  go_wp2_with fail
  refine (puts 0 _ 1 1 _ (by decide) (by decide) (by rw [enc_0]; exact (sl_lit w [0]).ints)).mono ?_
  rintro e w1 ⟨rfl, h1⟩
  have b1 : Bel w w1 := ((Bel.refl w).alloc _).trans h1
  clear h1
  go_wp2_with fail
  refine (puts 300 _ 2 2 _ (by decide) (by decide) (by rw [enc_300]; exact (sl_lit w1 [172, 2]).ints)).mono ?_
  rintro e w2 ⟨rfl, h2⟩
  have b2 : Bel w w2 := (b1.alloc _).trans h2
  clear h2 b1
  go_wp2_with fail
  refine (gets _ 2 2 [172, 2] 0 300 2 0 0 _ (sl_lit w2 [172, 2]).ints (by decide) bytes_2 (by decide) way_300).mono ?_
  rintro e w3 ⟨rfl, h3⟩
  have b3 : Bel w w3 := (b2.alloc _).trans h3
  clear h3 b2
  go_wp2_with fail
  refine (gets _ 2 2 [128, 0] 0 0 0 5 0 _ (sl_lit w3 [128, 0]).ints (by decide) bytes_80 (by decide) way_bad).mono ?_
  rintro e w4 ⟨rfl, h4⟩
  have b4 : Bel w w4 := (b3.alloc _).trans h4
  clear h4 b3
  go_wp2_with fail
  refine (gets none 0 0 [] 0 0 0 6 0 _ Ints.nil_ (by decide) bytes_nil (by decide) way_none).mono ?_
  rintro e w5 ⟨rfl, h5⟩
  have b5 : Bel w w5 := b4.trans h5
  clear h5 b4
  go_wp2
  go_ret
  exact ⟨rfl, b5⟩
end Cd
end Go.Proofs.Ytejbhfcmhijfcaa
