/-
  distraintkit.Pick among three; whether a reader has a fault.
  Conditions: the reader is one that NewReader made of at most 10^6 bytes.
-/
import Derived.Test.YtejbhfcmhijfcaaOneMath
namespace Go.Proofs.Ytejbhfcmhijfcaa
open Go.RowKit Go.Shelf
set_option linter.unusedVariables false
namespace Cd

theorem RS.le {w : World} {b : Nat} {zs : List Int} {k : Nat} {f : Option (Int × Int)} (h : RS w b zs k f) : k ≤ zs.length ∧ zs.length ≤ 1000000 := by
  obtain ⟨A, n, c, F, h1, _⟩ := h
  rw [h1.sl.len]
  exact ⟨h1.le, h1.len⟩
theorem RS.lt {w : World} {b : Nat} {zs : List Int} {k : Nat} {f : Option (Int × Int)} (h : RS w b zs k f) : b < w.heap.size := by
  obtain ⟨A, n, c, F, h1, _⟩ := h
  exact h1.blk.lt

set_option maxRecDepth 100000 in
theorem faulty_yes (b : Nat) (zs : List Int) (k : Nat) (e p : Int) (w : World) (h : RS w b zs k (some (e, p))) (he : e ≠ 0) :
    Calls Try.prog 42 #[.pointer (some ⟨b, 0, none⟩)] w fun r w' => r = .returned (.bool true) ∧ Bel w w' := by
  have EN := Lib.hid (rEnd b zs k _ w h)
  have LF := Lib.hid (fun w' (hb : Bel w w') => rLeft b zs k _ w' (h.bel hb))
  have fe : (e != 0) = true := by rw [bne_iff_ne]; exact he
  clear h he
  by_cases h4 : e = 4
  · subst h4
    go_enter Try.func42, Try.ntmps42
    go_wp2_with fail
    refine (EN.out).mono ?_
    rintro r w1 ⟨rfl, hb1⟩
    rw [show endOf zs.length k (some (4, p)) = (4, p) from rfl]
    have hb1 : Bel w w1 := hb1
    go_wp2_with fail
    refine (LF.out _ (hb1.alloc _)).mono ?_
    rintro r w2 ⟨rfl, hb2⟩
    rw [show leftOf zs.length k (some (4, p)) = 0 from rfl]
    have hb3 : Bel w w2 := (hb1.alloc _).trans hb2
    clear hb1 hb2
    go_wp2
    go_ret
    exact ⟨rfl, hb3⟩
  · have f4 : (e == 4) = false := by rw [beq_eq_false_iff_ne]; exact h4
    clear h4
    go_enter Try.func42, Try.ntmps42
    go_wp2_with fail
    refine (EN.out).mono ?_
    rintro r w1 ⟨rfl, hb1⟩
    rw [show endOf zs.length k (some (e, p)) = (e, p) from rfl]
    have hb1 : Bel w w1 := hb1
    go_wp2
    go_ret
    exact ⟨rfl, hb1.alloc _⟩
set_option maxRecDepth 100000 in
theorem faulty_no (b : Nat) (zs : List Int) (k : Nat) (w : World) (h : RS w b zs k none) :
    Calls Try.prog 42 #[.pointer (some ⟨b, 0, none⟩)] w fun r w' => r = .returned (.bool false) ∧ Bel w w' := by
  have EN := Lib.hid (rEnd b zs k _ w h)
  have LF := Lib.hid (fun w' (hb : Bel w w') => rLeft b zs k _ w' (h.bel hb))
  have hle := h.le
  clear h
  by_cases hlt : k < zs.length
  · have hd : (0 : Int) < (zs.length : Int) - (k : Int) := by omega
    go_enter Try.func42, Try.ntmps42
    go_wp2_with fail
    refine (EN.out).mono ?_
    rintro r w1 ⟨rfl, hb1⟩
    rw [show endOf zs.length k none = (4, (k : Int)) from if_pos hlt]
    have hb1 : Bel w w1 := hb1
    go_wp2_with fail
    refine (LF.out _ (hb1.alloc _)).mono ?_
    rintro r w2 ⟨rfl, hb2⟩
    rw [show leftOf zs.length k none = (zs.length : Int) - (k : Int) from rfl]
    have hb3 : Bel w w2 := (hb1.alloc _).trans hb2
    clear hb1 hb2
    go_wp2
    go_ret
    exact ⟨rfl, hb3⟩
  · go_enter Try.func42, Try.ntmps42
    go_wp2_with fail
    refine (EN.out).mono ?_
    rintro r w1 ⟨rfl, hb1⟩
    rw [show endOf zs.length k none = (0, 0) from if_neg hlt]
    have hb1 : Bel w w1 := hb1
    go_wp2
    go_ret
    exact ⟨rfl, hb1.alloc _⟩

set_option maxRecDepth 100000 in
theorem pick3 (x : Int) (w : World) (x0 : -9223372036854775808 ≤ x) (x1 : x ≤ 9223372036854775807) :
    Calls Try.prog 41 #[.int .i64 x, .int .i64 3] w fun e w' => ∃ r : Int, e = .returned (.int .i64 r) ∧ (r = 0 ∨ r = 1 ∨ r = 2) ∧ w = w' := by
  have h1 : x.tmod 3 < 3 := Int.tmod_lt_of_pos x (by decide)
  have h2 : -3 < x.tmod 3 := Int.lt_tmod_of_pos x (by decide)
  have e1 : IntKind.i64.wrap (x.tmod 3 + 3) = x.tmod 3 + 3 := IntWalk.i64_in _ (by omega)
  rcases Int.lt_or_le (x.tmod 3) 0 with h | h
  all_goals
    go_enter Try.func41, Try.ntmps41
    go_wp2
    go_ret
    exact ⟨_, rfl, by omega, rfl⟩
end Cd
end Go.Proofs.Ytejbhfcmhijfcaa
