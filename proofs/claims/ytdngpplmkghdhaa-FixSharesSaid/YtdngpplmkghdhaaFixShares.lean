/-
  The walks of distraintkit.Pick and of the law FixShares: it returns true, and what was there is as it was.
  Conditions: words, and a slice that reads as ints.
-/
import Derived.Test.YtdngpplmkghdhaaFixKnown
namespace Go.Proofs.Ytdngpplmkghdhaa
open Go.RowKit Go.Shelf
set_option linter.unusedVariables false

/-- One of the numbers from 0 on below n, by any number. -/
theorem pick (x n : Int) (w : World) (x0 : -9223372036854775808 ≤ x) (x1 : x ≤ 9223372036854775807) (n0 : 0 < n) (n1 : n ≤ 4611686018427387904) :
    Calls Try.prog 42 #[.int .i64 x, .int .i64 n] w fun e w' => e = .returned (.int .i64 (x % n)) ∧ w = w' := by
  have t0 := Int.emod_nonneg x (b := n) (by omega)
  have t1 := Int.emod_lt_of_pos x n0
  have hb : (x.tmod n = x % n ∨ (x.tmod n < 0 ∧ x.tmod n + n = x % n)) ∧ -n < x.tmod n ∧ x.tmod n < n := by
    rw [Int.tmod_eq_emod]
    split <;> rename_i h
    · exact ⟨.inl (by omega), by omega, by omega⟩
    · have hne : x % n ≠ 0 := fun e => h (.inr (Int.dvd_of_emod_eq_zero e))
      exact ⟨.inr ⟨by omega, by omega⟩, by omega, by omega⟩
  obtain ⟨ht, b0⟩ := hb
  obtain ⟨T, hT⟩ : ∃ T, x.tmod n = T := ⟨_, rfl⟩
  have hw : IntKind.i64.wrap T = T := IntWalk.i64_in _ (by omega)
  rw [hT] at ht b0
  obtain ⟨E, hE⟩ : ∃ E, x % n = E := ⟨_, rfl⟩
  rw [hE] at ht t0 t1 ⊢
  clear hE
  rcases ht with h | ⟨h1, h2⟩
  · subst h
    go_enter Try.func42, Try.ntmps42
    go_wp2
    go_ret
    exact ⟨rfl, rfl⟩
  · have H2 := Lib.hid h2
    clear h2
    go_enter Try.func42, Try.ntmps42
    go_wp2
    go_ret
    exact ⟨by rw [← H2.out]; rfl, rfl⟩

namespace Fix
theorem part_of {a p : Int} (a0 : 0 ≤ a) (a1 : a ≤ 18446744073709551615) (p0 : 0 ≤ p) (p1 : p ≤ 1000000000) : partN a p = a * p / 1000000000 ∧ partE a p = 0 ∧ 0 ≤ a * p / 1000000000 ∧ a * p / 1000000000 ≤ a := by
  have m0 : 0 ≤ a * p := Int.mul_nonneg a0 p0
  have m1 : a * p ≤ a * 1000000000 := Int.mul_le_mul_of_nonneg_left p1 a0
  have hle : a * p / 1000000000 ≤ a := by omega
  unfold partN partE
  rw [if_neg (by omega), if_neg (by omega)]
  unfold mdN mdE
  rw [if_neg (by decide), if_neg (by decide)]
  obtain ⟨e1, e2⟩ := amt_of (P := a * p / 1000000000) (by omega)
  rw [e1, e2]
  exact ⟨rfl, rfl, by omega, hle⟩

theorem part_mono {a b p q : Int} (a0 : 0 ≤ a) (h : a ≤ b) (p0 : 0 ≤ p) (hp : p ≤ q) : a * p / 1000000000 ≤ b * q / 1000000000 := by
  have h1 : a * p ≤ b * p := Int.mul_le_mul_of_nonneg_right h p0
  have h2 : b * p ≤ b * q := Int.mul_le_mul_of_nonneg_left hp (by omega)
  omega

/-- One part more: what is known of the sum. -/
theorem share_round {a L p s : Int} {k : Nat} (a0 : 0 ≤ a) (p0 : 0 ≤ p) (p1 : p ≤ L) (L1 : L ≤ 1000000000) (s0 : 0 ≤ s)
    (h1 : s * 1000000000 ≤ a * (1000000000 - L)) (h2 : a * (1000000000 - L) ≤ s * 1000000000 + (k : Int) * 999999999) :
    s ≤ a - a * p / 1000000000 ∧ (s + a * p / 1000000000) * 1000000000 ≤ a * (1000000000 - (L - p)) ∧ a * (1000000000 - (L - p)) ≤ (s + a * p / 1000000000) * 1000000000 + ((k + 1 : Nat) : Int) * 999999999 := by
  have e : a * (1000000000 - (L - p)) = a * (1000000000 - L) + a * p := by rw [← Int.mul_add]; congr 1; omega
  have m1 : a * (1000000000 - (L - p)) ≤ a * 1000000000 := Int.mul_le_mul_of_nonneg_left (by omega) a0
  have m2 : 0 ≤ a * p := Int.mul_nonneg a0 p0
  generalize a * (1000000000 - (L - p)) = X at *
  generalize a * (1000000000 - L) = Y at *
  generalize a * p = Z at *
  omega

set_option maxRecDepth 100000 in
set_option maxHeartbeats 1600000 in
theorem sharesLaw (a b : Int) (A : Option Addr) (n cap : Nat) (zs : List Int) (w : World) (a0 : 0 ≤ a) (a1 : a ≤ 18446744073709551615) (b0 : 0 ≤ b) (b1 : b ≤ 18446744073709551615)
    (hi : Ints .i64 w A n zs) (hz : ∀ z ∈ zs, -9223372036854775808 ≤ z ∧ z ≤ 9223372036854775807) (hn : n ≤ maxLen) :
    Calls Try.prog 7 #[.int .u64 a, .int .u64 b, .slice A n cap] w fun e w' => e = .returned (.bool true) ∧ Bel w w' := by
  have HZ := Lib.hid hz
  have HI := Lib.hid hi
  clear hi hz
  unfold maxLen at hn
  by_cases h20 : 20 < n
  · go_enter Try.func7, Try.ntmps7
    go_wp2_with (go_at_call 5; refine (known _).mono ?_; rintro e w1 ⟨rfl, h1⟩)
    go_ret
    exact ⟨rfl, h1⟩
  have h20' : n ≤ 20 := by omega
  have hd20 : decide ((20 : Int) < (n : Int)) = false := decide_eq_false (by omega)
  clear h20
  go_enter Try.func7, Try.ntmps7
  go_wp2_with fail
  refine (known _).mono ?_
  rintro e w1 ⟨rfl, hb1⟩
  go_wp2_with fail
  go_loopw [8, 9, 10, 11] (fun l s m i wr => ∃ (k : Nat) (L S : Int), i = .int .i64 k ∧ k ≤ n + 1 ∧ l = .int .u64 L ∧ 0 ≤ L ∧ L ≤ 1000000000 ∧ s = .int .u64 S ∧ 0 ≤ S ∧ S ≤ a ∧ m = .int .u64 (a * (1000000000 - L) / 1000000000) ∧
      S * 1000000000 ≤ a * (1000000000 - L) ∧ a * (1000000000 - L) ≤ S * 1000000000 + (k : Int) * 999999999 ∧ (k = n + 1 → L = 0) ∧ Bel w wr) (fun _ _ _ i _ => n + 1 - (intOf i).toNat)
  case atStart => exact ⟨0, 1000000000, 0, rfl, by omega, rfl, by omega, by omega, rfl, by omega, a0, by simp, by simp, by simp, by omega, hb1⟩
  case round =>
    obtain ⟨k, L, S, rfl, hk, rfl, L0, L1, rfl, S0, S1, rfl, q1, q2, hkl, hb⟩ := hrel
    have HQ := Lib.hid (⟨q1, q2, hkl⟩ : _ ∧ _ ∧ _)
    clear q1 q2 hkl
    by_cases hkn : k ≤ n
    · by_cases hlt : k < n
      · obtain ⟨b', o, rfl, hbw, hc⟩ := (HI.out.bel hb).2 (by omega)
        have hck := hc k hlt
        have hzk : -9223372036854775808 ≤ zs.getD k 0 ∧ zs.getD k 0 ≤ 9223372036854775807 := by
          rw [List.getD_eq_getElem?_getD, List.getElem?_eq_getElem (by rw [HI.out.1]; exact hlt)]
          exact HZ.out _ (List.getElem_mem _)
        obtain ⟨z0, z1⟩ := hzk
        clear hc
        generalize zs.getD k 0 = z at *
        have p0 := Int.emod_nonneg z (b := L + 1) (by omega)
        have p1 := Int.emod_lt_of_pos z (b := L + 1) (by omega)
        have PK := Lib.hid (fun w => pick z (L + 1) w z0 z1 (by omega) (by omega))
        generalize z % (L + 1) = p at *
        obtain ⟨c1, c2, c3, c4⟩ := part_of a0 a1 p0 (show p ≤ 1000000000 by omega)
        obtain ⟨d1, d2, d3, d4⟩ := part_of (a := a) (p := 1000000000 - (L - p)) a0 a1 (by omega) (by omega)
        obtain ⟨m1, m2, m3, m4⟩ := part_of (a := min a b) (p := p) (by omega) (by omega) p0 (by omega)
        obtain ⟨x1, x2, x3, x4⟩ := part_of (a := max a b) (p := p) (by omega) (by omega) p0 (by omega)
        obtain ⟨r1, r2, r3⟩ := share_round a0 p0 (show p ≤ L by omega) L1 S0 HQ.out.1 HQ.out.2.1
        have o1 := part_mono (a := min a b) (b := max a b) (p := p) (q := p) (by omega) (by omega) p0 (Int.le_refl _)
        have o2 := part_mono (a := a) (b := a) (p := 1000000000 - L) (q := 1000000000 - (L - p)) a0 (Int.le_refl _) (by omega) (by omega)
        have o3 := part_mono (a := a) (b := a) (p := 0) (q := 1000000000 - L) a0 (Int.le_refl _) (by omega) (by omega)
        have P1 := Lib.hid (fun w => part' a p _ _ w a0 a1 p0 (by omega) c1 c2)
        have P2 := Lib.hid (fun w => part' (min a b) p _ _ w (by omega) (by omega) p0 (by omega) m1 m2)
        have P3 := Lib.hid (fun w => part' (max a b) p _ _ w (by omega) (by omega) p0 (by omega) x1 x2)
        have P4 := Lib.hid (fun w => part' a (1000000000 - (L - p)) _ _ w a0 a1 (by omega) (by omega) d1 d2)
        have Q2 := Lib.hid r2
        have Q3 := Lib.hid r3
        clear c1 c2 d1 d2 m1 m2 x1 x2 r2 r3
        generalize a * p / 1000000000 = N at *
        generalize min a b * p / 1000000000 = lw at *
        generalize max a b * p / 1000000000 = hg at *
        generalize hLast : a * (1000000000 - L) / 1000000000 = last at *
        generalize hR : a * (1000000000 - (L - p)) / 1000000000 = R at *
        have HL := Lib.hid hLast
        have HR := Lib.hid hR
        have o3' : 0 ≤ last := by simpa using o3
        clear hLast hR o3
        go_wp2_with fail
        refine (PK.out _).mono ?_
        rintro e w' ⟨rfl, rfl⟩
        go_wp2_with fail
        refine (P1.out _).mono ?_
        rintro e w2 ⟨rfl, h2⟩
        go_wp2_with fail
        refine (P2.out _).mono ?_
        rintro e w3 ⟨rfl, h3⟩
        go_wp2_with fail
        refine (P3.out _).mono ?_
        rintro e w4 ⟨rfl, h4⟩
        go_wp2_with fail
        refine (P4.out _).mono ?_
        rintro e w5 ⟨rfl, h5⟩
        go_wp2
        go_roundw
        case rel => exact ⟨k + 1, L - p, S + N, by go_num, by omega, rfl, by omega, by omega, rfl, by omega, by omega, by rw [HR.out], Q2.out, Q3.out, by omega, hb.trans (h2.trans (h3.trans (h4.trans h5)))⟩
        case measure => simp [intOf]; omega
      · obtain rfl : k = n := by omega
        obtain ⟨c1, c2, c3, c4⟩ := part_of a0 a1 L0 L1
        obtain ⟨d1, d2, d3, d4⟩ := part_of (a := a) (p := 1000000000) a0 a1 (by omega) (by omega)
        obtain ⟨m1, m2, m3, m4⟩ := part_of (a := min a b) (p := L) (by omega) (by omega) L0 L1
        obtain ⟨x1, x2, x3, x4⟩ := part_of (a := max a b) (p := L) (by omega) (by omega) L0 L1
        obtain ⟨r1, r2, r3⟩ := share_round a0 L0 (Int.le_refl L) L1 S0 HQ.out.1 HQ.out.2.1
        rw [Int.sub_self, Int.sub_zero] at r2 r3
        have o1 := part_mono (a := min a b) (b := max a b) (p := L) (q := L) (by omega) (by omega) L0 (Int.le_refl _)
        have o2 := part_mono (a := a) (b := a) (p := 1000000000 - L) (q := 1000000000) a0 (Int.le_refl _) (by omega) (by omega)
        have o3 := part_mono (a := a) (b := a) (p := 0) (q := 1000000000 - L) a0 (Int.le_refl _) (by omega) (by omega)
        have P1 := Lib.hid (fun w => part' a L _ _ w a0 a1 L0 (by omega) c1 c2)
        have P2 := Lib.hid (fun w => part' (min a b) L _ _ w (by omega) (by omega) L0 (by omega) m1 m2)
        have P3 := Lib.hid (fun w => part' (max a b) L _ _ w (by omega) (by omega) L0 (by omega) x1 x2)
        have P4 := Lib.hid (fun w => part' a 1000000000 _ _ w a0 a1 (by omega) (by omega) d1 d2)
        have Q2 := Lib.hid r2
        have Q3 := Lib.hid r3
        clear c1 c2 d1 d2 m1 m2 x1 x2 r2 r3
        generalize a * L / 1000000000 = N at *
        generalize min a b * L / 1000000000 = lw at *
        generalize max a b * L / 1000000000 = hg at *
        generalize hLast : a * (1000000000 - L) / 1000000000 = last at *
        generalize hR : a * 1000000000 / 1000000000 = R at *
        have HL := Lib.hid hLast
        have HR := Lib.hid hR
        have o3' : 0 ≤ last := by simpa using o3
        clear hLast hR o3
        go_wp2_with fail
        refine (P1.out _).mono ?_
        rintro e w2 ⟨rfl, h2⟩
        go_wp2_with fail
        refine (P2.out _).mono ?_
        rintro e w3 ⟨rfl, h3⟩
        go_wp2_with fail
        refine (P3.out _).mono ?_
        rintro e w4 ⟨rfl, h4⟩
        go_wp2_with fail
        refine (P4.out _).mono ?_
        rintro e w5 ⟨rfl, h5⟩
        go_wp2
        go_roundw
        case rel => exact ⟨k + 1, 0, S + N, by go_num, by omega, rfl, by omega, by omega, rfl, by omega, by omega, by rw [Int.sub_zero, HR.out], by rw [Int.sub_zero]; exact Q2.out, by rw [Int.sub_zero]; exact Q3.out, fun _ => rfl, hb.trans (h2.trans (h3.trans (h4.trans h5)))⟩
        case measure => simp [intOf]
    · obtain rfl : k = n + 1 := by omega
      have hL := HQ.out.2.2 rfl
      subst hL
      have hfin : a - S ≤ (n : Int) := by
        obtain ⟨r1, r2, _⟩ := HQ.out
        simp at r1 r2
        omega
      go_wp2
      go_ret
      exact ⟨by first | rfl | (simp; omega) | simp, hb⟩
end Fix
end Go.Proofs.Ytdngpplmkghdhaa
