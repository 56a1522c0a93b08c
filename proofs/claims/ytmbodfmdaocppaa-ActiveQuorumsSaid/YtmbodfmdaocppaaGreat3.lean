/-
  What LessGreat and SameGreat of distraintkit answer in this program: how two great numbers compare.
  Conditions: the slices are great numbers of at most some thousand digits.
-/
import Derived.Test.YtmbodfmdaocppaaGreat2
namespace Go.Proofs.Ytmbodfmdaocppaa
open Go.RowKit Go.Shelf
set_option linter.unusedVariables false
namespace Gt

/-- a slice's own form of a great number -/
def GrS (w : World) (A : Option Addr) (n : Nat) (zs : List Int) (P : Int) (L : Nat) : Prop := Ints .u64 w A n zs ∧ Dig zs ∧ Full zs n ∧ valTo zs n = P ∧ n ≤ L
theorem Gr.open_ {w : World} {v : Value} {P : Int} {L : Nat} (h : Gr w v P L) : ∃ A n c zs, v = .slice A n c ∧ GrS w A n zs P L := by
  obtain ⟨A, n, c, zs, rfl, a, b, d, e, f⟩ := h
  exact ⟨A, n, c, zs, rfl, a, b, d, e, f⟩

set_option maxHeartbeats 800000 in
theorem less (v u : Value) (P Q : Int) (L M : Nat) (w : World) (hp : Gr w v P L) (hq : Gr w u Q M) (hL : L ≤ 100000) (hM : M ≤ 100000) :
    Calls Try.prog 30 #[v, u] w fun e w' => e = .returned (.bool (decide (P < Q))) ∧ Bel w w' := by
  obtain ⟨A, n, c, xs, rfl, hi, hd, hf, rfl, hn⟩ := hp.open_
  obtain ⟨B, m, c', ys, rfl, hi', hd', hf', rfl, hm⟩ := hq.open_
  clear hp hq
  have HI := Lib.hid hi; have HI' := Lib.hid hi'; have HD := Lib.hid hd; have HD' := Lib.hid hd'; have HF := Lib.hid hf; have HF' := Lib.hid hf'
  clear hi hi' hd hd' hf hf'
  rcases Nat.lt_trichotomy n m with hlt | heq | hgt
  · have E := Lib.hid (decide_eq_true (less_len HD.out HD'.out HF'.out hlt))
    rw [E.out]
    go_enter Try.func30, Try.ntmps30
    go_wp2
    go_ret
    exact ⟨by first | rfl | (simp; omega) | simp, Bel.refl _⟩
  · subst heq
    go_enter Try.func30, Try.ntmps30
    go_wp2_with fail
    go_loopw [5] (fun i wr => ∃ k : Nat, k ≤ n ∧ i = .int .i64 ((k : Int) - 1) ∧ (∀ i, k ≤ i → i < n → xs.getD i 0 = ys.getD i 0) ∧ Bel w wr) (fun i _ => (intOf i + 1).toNat)
    case atStart => exact ⟨n, Nat.le_refl _, rfl, fun i h1 h2 => absurd h1 (by omega), Bel.refl _⟩
    case round =>
      obtain ⟨k, hk, rfl, he, hb⟩ := hrel
      have HE := Lib.hid he
      clear he
      rcases k with _ | k
      · have E := Lib.hid (show decide (valTo xs n < valTo ys n) = false from decide_eq_false (by rw [valTo_congr fun i hi => HE.out i (Nat.zero_le _) hi]; omega))
        rw [show ((0 : Nat) : Int) - 1 = -1 from rfl]
        go_wp2
        go_ret
        exact ⟨by rw [E.out]; rfl, hb⟩
      · rw [show ((k + 1 : Nat) : Int) - 1 = k by omega]
        obtain ⟨b, o, rfl, hbw, hcell⟩ := (HI.out.bel hb).2 (by omega)
        obtain ⟨b', o', rfl, hbw', hcell'⟩ := (HI'.out.bel hb).2 (by omega)
        have hck := hcell k (by omega)
        have hck' := hcell' k (by omega)
        clear hcell hcell'
        rcases Int.lt_trichotomy (xs.getD k 0) (ys.getD k 0) with h | h | h
        · have E := Lib.hid (decide_eq_true (less_digit HD.out HD'.out (show k < n by omega) (fun i h1 h2 => HE.out i (by omega) h2) h))
          generalize xs.getD k 0 = x at hck h
          generalize ys.getD k 0 = y at hck' h
          have hne : (x != y) = true := by rw [bne_iff_ne]; omega
          go_wp2
          go_quiet (fail)
          go_wp2
          go_quiet (fail)
          go_wp2
          go_ret
          exact ⟨by rw [E.out]; first | rfl | simp [h], (hb.drewN _).drewN _⟩
        · have h' := Lib.hid h
          rw [h] at hck
          generalize ys.getD k 0 = y at hck hck'
          clear h
          go_wp2
          go_quiet (fail)
          go_wp2
          go_roundw
          case rel =>
            refine ⟨k, by omega, rfl, fun i h1 h2 => ?_, hb.drewN _⟩
            rcases Nat.lt_or_ge k i with h3 | h3
            · exact HE.out i h3 h2
            · obtain rfl : i = k := by omega
              exact h'.out
          case measure => simp [intOf]
        · have E := Lib.hid (less_digit HD'.out HD.out (show k < n by omega) (fun i h1 h2 => (HE.out i (by omega) h2).symm) h)
          have E' := Lib.hid (show decide (valTo xs n < valTo ys n) = false from decide_eq_false (by have := E.out; omega))
          generalize xs.getD k 0 = x at hck h
          generalize ys.getD k 0 = y at hck' h
          have hne : (x != y) = true := by rw [bne_iff_ne]; omega
          go_wp2
          go_quiet (fail)
          go_wp2
          go_quiet (fail)
          go_wp2
          go_ret
          exact ⟨by rw [E'.out]; first | rfl | (simp; omega), (hb.drewN _).drewN _⟩
  · have E := Lib.hid (less_len HD'.out HD.out HF.out hgt)
    have E' := Lib.hid (show decide (valTo xs n < valTo ys m) = false from decide_eq_false (by have := E.out; omega))
    rw [E'.out]
    go_enter Try.func30, Try.ntmps30
    go_wp2
    go_ret
    exact ⟨by first | rfl | (simp; omega) | simp, Bel.refl _⟩

end Gt
end Go.Proofs.Ytmbodfmdaocppaa
