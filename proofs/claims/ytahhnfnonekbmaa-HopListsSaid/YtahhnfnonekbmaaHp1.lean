/-
  What hop.Check answers of any list of hops. Conditions: at most a billion hops.
-/
import Derived.Test.YtahhnfnonekbmaaHpM
import Derived.WalkMore
namespace Go.Proofs.Ytahhnfnonekbmaa
open Go.RowKit Go.Shelf
set_option linter.unusedVariables false
set_option linter.unusedSimpArgs false
namespace Hp
open Kk Pm

theorem info_h : (Try.prog.info? 24).map (·.size) = some 4 := by kernel_rfl
theorem zero_h : (Try.prog.info? 24).map (fun i => (i.zero, i.size, i.bytes)) = some (some (.agg #[.int .i64 0, .int .i64 0, .int .i64 0, .int .i64 0]), 4, 32) := by kernel_rfl
theorem load_h {w : World} {b : Nat} {x1 x2 x3 x4 : Int} (h : Blk w b #[.int .i64 x1, .int .i64 x2, .int .i64 x3, .int .i64 x4] 24) : (loadVar 24 ⟨b, 0, none⟩).run Try.prog w = .ok (.agg #[.int .i64 x1, .int .i64 x2, .int .i64 x3, .int .i64 x4]) w :=
  load_b (C := [.int .i64 x1, .int .i64 x2, .int .i64 x3, .int .i64 x4]) h Try.underlying24 rfl info_h
theorem isAccount (x : Int) (w : World) : Calls Try.prog 39 #[.int .i64 x] w fun e w' => e = .returned (.bool (decide (0 ≤ x ∧ x < 64))) ∧ w = w' := by
  go_enter Try.func39, Try.ntmps39
  by_cases h : 0 ≤ x
  · by_cases h2 : x < 64
    · have hd : decide (0 ≤ x ∧ x < 64) = true := decide_eq_true ⟨h, h2⟩
      rw [hd]
      go_wp2
      go_ret
      exact ⟨rfl, rfl⟩
    · have hd : decide (0 ≤ x ∧ x < 64) = false := decide_eq_false (by omega)
      rw [hd]
      go_wp2
      go_ret
      exact ⟨rfl, rfl⟩
  · have hd : decide (0 ≤ x ∧ x < 64) = false := decide_eq_false (by omega)
    rw [hd]
    go_wp2
    go_ret
    exact ⟨rfl, rfl⟩
theorem isValidator (x : Int) (w : World) : Calls Try.prog 40 #[.int .i64 x] w fun e w' => e = .returned (.bool (decide (0 ≤ x ∧ x < 32))) ∧ w = w' := by
  go_enter Try.func40, Try.ntmps40
  by_cases h : 0 ≤ x
  · by_cases h2 : x < 32
    · have hd : decide (0 ≤ x ∧ x < 32) = true := decide_eq_true ⟨h, h2⟩
      rw [hd]
      go_wp2
      go_ret
      exact ⟨rfl, rfl⟩
    · have hd : decide (0 ≤ x ∧ x < 32) = false := decide_eq_false (by omega)
      rw [hd]
      go_wp2
      go_ret
      exact ⟨rfl, rfl⟩
  · have hd : decide (0 ≤ x ∧ x < 32) = false := decide_eq_false (by omega)
    rw [hd]
    go_wp2
    go_ret
    exact ⟨rfl, rfl⟩
theorem isHeight (x : Int) (w : World) : Calls Try.prog 41 #[.int .i64 x] w fun e w' => e = .returned (.bool (decide (1 ≤ x ∧ x ≤ 4294967296))) ∧ w = w' := by
  go_enter Try.func41, Try.ntmps41
  by_cases h : 1 ≤ x
  · by_cases h2 : x ≤ 4294967296
    · have hd : decide (1 ≤ x ∧ x ≤ 4294967296) = true := decide_eq_true ⟨h, h2⟩
      rw [hd]
      go_wp2
      go_ret
      exact ⟨rfl, rfl⟩
    · have hd : decide (1 ≤ x ∧ x ≤ 4294967296) = false := decide_eq_false (by omega)
      rw [hd]
      go_wp2
      go_ret
      exact ⟨rfl, rfl⟩
  · have hd : decide (1 ≤ x ∧ x ≤ 4294967296) = false := decide_eq_false (by omega)
    rw [hd]
    go_wp2
    go_ret
    exact ⟨rfl, rfl⟩
theorem isPeriod (x : Int) (w : World) : Calls Try.prog 43 #[.int .i64 x] w fun e w' => e = .returned (.bool (decide (1 ≤ x ∧ x ≤ 1048576))) ∧ w = w' := by
  go_enter Try.func43, Try.ntmps43
  by_cases h : 1 ≤ x
  · by_cases h2 : x ≤ 1048576
    · have hd : decide (1 ≤ x ∧ x ≤ 1048576) = true := decide_eq_true ⟨h, h2⟩
      rw [hd]
      go_wp2
      go_ret
      exact ⟨rfl, rfl⟩
    · have hd : decide (1 ≤ x ∧ x ≤ 1048576) = false := decide_eq_false (by omega)
      rw [hd]
      go_wp2
      go_ret
      exact ⟨rfl, rfl⟩
  · have hd : decide (1 ≤ x ∧ x ≤ 1048576) = false := decide_eq_false (by omega)
    rw [hd]
    go_wp2
    go_ret
    exact ⟨rfl, rfl⟩

theorem may_no1 {a b c d : Int} (h : ¬ (0 ≤ a ∧ a < 64)) : may (a, b, c, d) = false := decide_eq_false (fun h' => h ⟨h'.1, h'.2.1⟩)
theorem may_no2 {a b c d : Int} (h : ¬ (0 ≤ b ∧ b < 32)) : may (a, b, c, d) = false := decide_eq_false (fun h' => h ⟨h'.2.2.1, h'.2.2.2.1⟩)
theorem may_no3 {a b c d : Int} (h : ¬ (0 ≤ c ∧ c < 32)) : may (a, b, c, d) = false := decide_eq_false (fun h' => h ⟨h'.2.2.2.2.1, h'.2.2.2.2.2.1⟩)
theorem may_no4 {a b c d : Int} (h : b = c) : may (a, b, c, d) = false := decide_eq_false (fun h' => h'.2.2.2.2.2.2.1 h)
theorem may_no5 {a b c d : Int} (h : ¬ (1 ≤ d ∧ d ≤ 4294967296)) : may (a, b, c, d) = false := decide_eq_false (fun h' => h h'.2.2.2.2.2.2.2)
theorem may_yes {a b c d : Int} (h1 : 0 ≤ a ∧ a < 64) (h2 : 0 ≤ b ∧ b < 32) (h3 : 0 ≤ c ∧ c < 32) (h4 : ¬ b = c) (h5 : 1 ≤ d ∧ d ≤ 4294967296) : may (a, b, c, d) = true := decide_eq_true ⟨h1.1, h1.2, h2.1, h2.2, h3.1, h3.2, h4, h5⟩
theorem hE_3 {b : Int} {r : R4} (h : may r = false) : hE b r = 3 := if_pos h
theorem hE_9 {b : Int} {r : R4} (h : may r = true) (h2 : cr r < b) : hE b r = 9 := by
  unfold hE
  rw [if_neg (by rw [h]; decide), if_pos h2]
theorem rng4 {w : World} {b o : Nat} {a1 a2 a3 a4 : Value} (h : w.rangeAt b o [a1, a2, a3, a4]) : w.cell? ⟨b, o, none⟩ = some a1 ∧ w.cell? ⟨b, o + 1, none⟩ = some a2 ∧ w.cell? ⟨b, o + 2, none⟩ = some a3 ∧ w.cell? ⟨b, o + 3, none⟩ = some a4 :=
  ⟨h 0 _ rfl, h 1 _ rfl, h 2 _ rfl, h 3 _ rfl⟩

set_option maxRecDepth 100000 in
set_option maxHeartbeats 4000000 in
theorem check (A : Option Addr) (n c : Nat) (l : List R4) (w : World) (hi : Rw.RS hR w A n c l) (hn : n ≤ 1000000000) :
    Calls Try.prog 11 #[.slice A n c] w fun e w' => e = .returned (.tuple #[.int .i64 (chk l).1, .int .i64 (chk l).2]) ∧ Bel w w' := by
  have HR := Lib.hid hi
  have HL := Lib.hid hi.len
  clear hi
  by_cases hlong : 4096 < n
  · have e : chk l = (4, 4096) := if_pos (by rw [HL.out]; exact hlong)
    rw [e]
    clear e
    have hlong3 : (4096 : Int) < n := by omega
    go_enter Try.func11, Try.ntmps11
    go_wp2_with fail
    go_step3
    go_wp2_with fail
    (try rw [Exit.noGoto_ret])
    go_ret2
    exact ⟨rfl, Bel.refl _⟩
  have e : chk l = ck 0 l 0 := if_neg (by rw [HL.out]; exact hlong)
  rw [e]
  clear e
  obtain ⟨R, hRR⟩ : ∃ R, ck 0 l 0 = R := ⟨_, rfl⟩
  rw [hRR]
  have HRR := Lib.hid hRR
  have hlong3 : ¬ (4096 : Int) < n := by omega
  clear hRR
  go_enter Try.func11, Try.ntmps11
  go_wp2_with fail
  go_step3
  go_wp2_with fail
  go_step3
  go_wp2_with fail
  go_loopw [2, 3, 4, 12] (fun s2 s3 s4 s12 wr => ∃ k : Nat, k ≤ n ∧ s12 = .int .i64 k ∧ s2 = .int .i64 0 ∧ s3 = .int .i64 0 ∧ s4 = .int .i64 (bef 0 l k) ∧ Hid ((∀ (j : Nat) (x : R4), j < k → l[j]? = some x → hE (bef 0 l j) x = 0) ∧ Bel w wr)) (fun _ _ _ s12 _ => n - (intOf s12).toNat)
  case atStart => exact ⟨0, Nat.zero_le _, rfl, rfl, rfl, rfl, Lib.hid ⟨fun j x hj => absurd hj (by omega), Bel.refl _⟩⟩
  case round =>
    obtain ⟨k, hk, rfl, rfl, rfl, rfl, hh⟩ := hrel
    obtain ⟨B, hB⟩ : ∃ B, bef 0 l k = B := ⟨_, rfl⟩
    rw [hB]
    have HB := Lib.hid hB
    clear hB
    by_cases hlt : k < n
    · obtain ⟨⟨r1, r2, r3, r4⟩, hr⟩ := HR.out.get hlt
      obtain ⟨b, o, rfl, hb, hrow⟩ := (HR.out.bel hh.out.2).at hlt hr
      have HRR1 := Lib.hid hr
      have AT := Lib.hid (show hE B (r1, r2, r3, r4) ≠ 0 → R = (hE B (r1, r2, r3, r4), k) from fun h0 => by
        have := ck_at l 0 0 k _ hh.out.1 hr (by rw [HB.out]; exact h0)
        rw [HRR.out, HB.out, Nat.zero_add] at this
        exact this)
      have hlt3 : (k : Int) < n := by omega
      obtain ⟨c0, c1, c2, c3⟩ := rng4 (show wr.rangeAt b (o + k * 4) [.int .i64 r1, .int .i64 r2, .int .i64 r3, .int .i64 r4] from hrow)
      clear hr hrow
      go_upto_region 7 with fail
      have P0 := Lib.hid (Blk.new wr #[.int .i64 r1, .int .i64 r2, .int .i64 r3, .int .i64 r4] 24)
      obtain ⟨V, hV⟩ : ∃ V, wr.alloc (.cells #[.int .i64 r1, .int .i64 r2, .int .i64 r3, .int .i64 r4] 24) = V := ⟨_, rfl⟩
      have BV := Lib.hid (show Bel w V by rw [← hV]; exact hh.out.2.alloc _)
      rw [hV] at P0 ⊢
      obtain ⟨q, hq⟩ : ∃ q, wr.heap.size = q := ⟨_, rfl⟩
      rw [hq] at P0 ⊢
      clear hV hq c0 c1 c2 c3
      have c0 := P0.out.cell 0 rfl
      have c1 := P0.out.cell 1 rfl
      have c2 := P0.out.cell 2 rfl
      have c3 := P0.out.cell 3 rfl
      by_cases h1 : 0 ≤ r1 ∧ r1 < 64
      · have i1 := isAccount r1 V
        rw [decide_eq_true h1] at i1
        go_wp2_with fail
        refine i1.mono ?_
        rintro e w1 ⟨rfl, rfl⟩
        clear i1
        by_cases h2 : 0 ≤ r2 ∧ r2 < 32
        · have i2 := isValidator r2 V
          rw [decide_eq_true h2] at i2
          go_wp2_with fail
          refine i2.mono ?_
          rintro e w1 ⟨rfl, rfl⟩
          clear i2
          by_cases h3 : 0 ≤ r3 ∧ r3 < 32
          · have i3 := isValidator r3 V
            rw [decide_eq_true h3] at i3
            go_wp2_with fail
            refine i3.mono ?_
            rintro e w1 ⟨rfl, rfl⟩
            clear i3
            by_cases h4 : r2 = r3
            · obtain rfl : R = (3, k) := by have h0 := AT.out (by rw [hE_3 (may_no4 h4)]; decide); rwa [hE_3 (may_no4 h4)] at h0
              have h4b : (r2 == r3) = true := by rw [beq_iff_eq]; exact h4
              clear h4
              go_wp2_with fail
              (try rw [Exit.noGoto_ret])
              go_ret2
              exact ⟨rfl, BV.out⟩
            · have h4b : (r2 == r3) = false := beq_eq_false_iff_ne.2 h4
              by_cases h5 : 1 ≤ r4 ∧ r4 ≤ 4294967296
              · have i5 := isHeight r4 V
                rw [decide_eq_true h5] at i5
                go_wp2_with fail
                refine i5.mono ?_
                rintro e w1 ⟨rfl, rfl⟩
                clear i5
                have hm := may_yes h1 h2 h3 h4 h5
                clear h1 h2 h3 h4 h5
                by_cases h6 : r4 < B
                · obtain rfl : R = (9, k) := by have h0 := AT.out (by rw [hE_9 hm h6]; decide); rwa [hE_9 hm h6] at h0
                  clear hm
                  go_wp2_with fail
                  (try rw [Exit.noGoto_ret])
                  go_ret2
                  exact ⟨rfl, BV.out⟩
                · have HZ := Lib.hid (hE_mk hm (show B ≤ r4 by omega))
                  clear hm
                  go_wp2_with fail
                  go_roundw
                  case rel =>
                    refine ⟨k + 1, by omega, by go_num, rfl, rfl, by rw [bef_succ HRR1.out]; rfl, Lib.hid ⟨fun j x hj hx => ?_, BV.out⟩⟩
                    rcases Nat.lt_or_ge j k with h' | h'
                    · exact hh.out.1 j x h' hx
                    · obtain rfl : j = k := by omega
                      have := HRR1.out.symm.trans hx
                      injection this with this
                      rw [← this, HB.out]; exact HZ.out
                  case measure => simp [intOf]; omega
              · obtain rfl : R = (3, k) := by have h0 := AT.out (by rw [hE_3 (may_no5 h5)]; decide); rwa [hE_3 (may_no5 h5)] at h0
                have i5 := isHeight r4 V
                rw [decide_eq_false h5] at i5
                go_wp2_with fail
                refine i5.mono ?_
                rintro e w1 ⟨rfl, rfl⟩
                go_wp2_with fail
                (try rw [Exit.noGoto_ret])
                go_ret2
                exact ⟨rfl, BV.out⟩
          · obtain rfl : R = (3, k) := by have h0 := AT.out (by rw [hE_3 (may_no3 h3)]; decide); rwa [hE_3 (may_no3 h3)] at h0
            have i3 := isValidator r3 V
            rw [decide_eq_false h3] at i3
            go_wp2_with fail
            refine i3.mono ?_
            rintro e w1 ⟨rfl, rfl⟩
            go_wp2_with fail
            (try rw [Exit.noGoto_ret])
            go_ret2
            exact ⟨rfl, BV.out⟩
        · obtain rfl : R = (3, k) := by have h0 := AT.out (by rw [hE_3 (may_no2 h2)]; decide); rwa [hE_3 (may_no2 h2)] at h0
          have i2 := isValidator r2 V
          rw [decide_eq_false h2] at i2
          go_wp2_with fail
          refine i2.mono ?_
          rintro e w1 ⟨rfl, rfl⟩
          go_wp2_with fail
          (try rw [Exit.noGoto_ret])
          go_ret2
          exact ⟨rfl, BV.out⟩
      · obtain rfl : R = (3, k) := by have h0 := AT.out (by rw [hE_3 (may_no1 h1)]; decide); rwa [hE_3 (may_no1 h1)] at h0
        have i1 := isAccount r1 V
        rw [decide_eq_false h1] at i1
        go_wp2_with fail
        refine i1.mono ?_
        rintro e w1 ⟨rfl, rfl⟩
        go_wp2_with fail
        (try rw [Exit.noGoto_ret])
        go_ret2
        exact ⟨rfl, BV.out⟩
    · obtain rfl : k = n := by omega
      have h0 : R = (0, 0) := HRR.out.symm.trans (ck_end l 0 0 (fun j x hx => hh.out.1 j x (by have := (List.getElem?_eq_some_iff.1 hx).1; have := HL.out; omega) hx))
      subst h0
      go_wp2_with fail
      (try rw [Exit.noGoto_ret])
      go_ret2
      exact ⟨rfl, hh.out.2⟩
end Hp
end Go.Proofs.Ytahhnfnonekbmaa
