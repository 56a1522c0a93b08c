/-
  Texts of this claim, put together: Hp4, Ms, Hp5. What each one says, and under which conditions, stands ahead of it.
-/
import Derived.Maps.OwnOps
import Derived.Maps.Views
import Derived.Maps.OwnSet
import Derived.WideKeyEntry
import Derived.DeepKeys4
import Derived.Test.YtahhnfnonekbmaaQA
import Derived.Test.YtahhnfnonekbmaaGPMem
import Derived.Test.YtahhnfnonekbmaaGStill

section
/-
  What Into of hop and of the reference, and may, Check and Count of the reference answer of any list of hops. Conditions: at most a billion hops.
-/
namespace Go.Proofs.Ytahhnfnonekbmaa
open Go.RowKit Go.Shelf
set_option linter.unusedVariables false
set_option linter.unusedSimpArgs false
namespace Hp
open Kk Pm

theorem bel_drewN (w : World) (n : Nat) : Bel w (w.drewN n) := ⟨rfl, rfl, rfl, Nat.le_refl _, fun _ _ => rfl⟩
theorem into_next {l : List R4} {k : Nat} {r : R4} (hr : l[k]? = some r) (q : R4 → Bool) : (l.take (k + 1)).filter q = (l.take k).filter q ++ (if q r = true then [r] else []) := by
  rw [List.take_add_one, hr, List.filter_append]
  congr 1
  show List.filter q [r] = _
  by_cases hq : q r = true <;> simp [hq]
theorem into_def (o d r1 r2 r3 r4 : Int) : into o d (r1, r2, r3, r4) = ((r1 == o) && (r3 == d)) := by
  by_cases h1 : r1 = o <;> by_cases h2 : r3 = d <;> simp [into, h1, h2]
theorem goes_def (o s d r1 r2 r3 r4 : Int) : goes o s d (r1, r2, r3, r4) = ((r1 == o) && (r2 == s) && (r3 == d)) := by
  by_cases h1 : r1 = o <;> by_cases h2 : r2 = s <;> by_cases h3 : r3 = d <;> simp [goes, h1, h2, h3]
set_option maxRecDepth 10000 in
set_option maxHeartbeats 2000000 in
theorem into_ (A : Option Addr) (n c : Nat) (l : List R4) (o d : Int) (w : World) (hi : Rw.RS hR w A n c l) (hn : n ≤ 1000000000) :
    Calls Try.prog 22 #[.slice A n c, .int .i64 o, .int .i64 d] w fun e w' => ∃ v, e = .returned v ∧ OwnH w' w.heap.size v (l.filter (into o d)) ∧ Bel w w' := by
  have HR := Lib.hid hi
  clear hi
  go_enter Try.func22, Try.ntmps22
  go_wp2_with fail
  go_loopw [6, 11] (fun s6 s11 wr => ∃ k : Nat, k ≤ n ∧ s11 = .int .i64 k ∧ Hid (OwnH wr w.heap.size s6 ((l.take k).filter (into o d))) ∧ Hid (Bel w wr)) (fun _ s11 _ => n - (intOf s11).toNat)
  case atStart => exact ⟨0, Nat.zero_le _, rfl, Lib.hid (Rw.OwnR.nil_ _ _ _ _), Lib.hid (Bel.refl _)⟩
  case round =>
    obtain ⟨k, hk, rfl, ho, hh⟩ := hrel
    by_cases hlt : k < n
    · obtain ⟨⟨r1, r2, r3, r4⟩, hr⟩ := HR.out.get hlt
      obtain ⟨b, q, rfl, hb, hrow⟩ := (HR.out.bel hh.out).at hlt hr
      have HNX := Lib.hid (into_next hr (into o d))
      rw [into_def] at HNX
      have HLE := Lib.hid (show ((l.take k).filter (into o d)).length ≤ k from Nat.le_trans (List.length_filter_le _ _) (by rw [List.length_take]; omega))
      have hlt3 : (k : Int) < n := by omega
      have hlt0 : (0 : Int) ≤ k := by omega
      obtain ⟨c0, c1, c2, c3⟩ := rng4 (show wr.rangeAt b (q + k * 4) [.int .i64 r1, .int .i64 r2, .int .i64 r3, .int .i64 r4] from hrow)
      clear hr hrow
      go_upto_region 4 with fail
      have P0 := Lib.hid (Blk.new wr #[.int .i64 r1, .int .i64 r2, .int .i64 r3, .int .i64 r4] 24)
      obtain ⟨V, hV⟩ : ∃ V, wr.alloc (.cells #[.int .i64 r1, .int .i64 r2, .int .i64 r3, .int .i64 r4] 24) = V := ⟨_, rfl⟩
      have BV := Lib.hid (show Bel w V by rw [← hV]; exact hh.out.alloc _)
      have HO := Lib.hid (show OwnH V w.heap.size _ _ by rw [← hV]; exact ho.out.bel ((Bel.refl _).alloc _))
      rw [hV] at P0 ⊢
      obtain ⟨g, hg⟩ : ∃ g, wr.heap.size = g := ⟨_, rfl⟩
      rw [hg] at P0 ⊢
      clear hV hg c0 c1 c2 c3 ho
      have c0 := P0.out.cell 0 rfl
      have c1 := P0.out.cell 1 rfl
      have c2 := P0.out.cell 2 rfl
      have c3 := P0.out.cell 3 rfl
      have HX := Lib.hid (Rw.rs_one hR (r := (r1, r2, r3, r4)) (Blk.new V #[.int .i64 r1, .int .i64 r2, .int .i64 r3, .int .i64 r4] 24))
      have HOA := Lib.hid (HO.out.bel ((Bel.refl V).alloc (.cells #[.int .i64 r1, .int .i64 r2, .int .i64 r3, .int .i64 r4] 24)))
      have HSZ := Lib.hid (Below.size BV.out)
      have NO : ∀ x : Bool, ((r1 == o) && (r3 == d)) = x → Hid ((l.take (k + 1)).filter (into o d) = (l.take k).filter (into o d) ++ (if x = true then [(r1, r2, r3, r4)] else [])) := fun x hx => by rw [hx] at HNX; exact HNX
      clear HNX
      cases h1 : (r1 == o)
      · rw [h1] at NO
        have HN := Lib.hid (NO false rfl).out
        clear NO HX HOA
        go_wp2_with fail
        go_roundw
        case rel => exact ⟨k + 1, by omega, by go_num, Lib.hid (by rw [HN.out]; simpa using HO.out), BV⟩
        case measure => simp [intOf]; omega
      · rw [h1] at NO
        cases h2 : (r3 == d)
        · rw [h2] at NO
          have HN := Lib.hid (NO false rfl).out
          clear NO HX HOA
          go_wp2_with fail
          go_roundw
          case rel => exact ⟨k + 1, by omega, by go_num, Lib.hid (by rw [HN.out]; simpa using HO.out), BV⟩
          case measure => simp [intOf]; omega
        · rw [h2] at NO
          have HN := Lib.hid (NO true rfl).out
          clear NO
          go_wp2_with (at_builtin; refine Rw.append_R hR rfl _ _ _ 24 rfl underH zero_h rfl (by decide) w.heap.size _ ((l.take k).filter (into o d)) rfl HOA.out (some ⟨V.heap.size, 0, none⟩) 1 1 [(r1, r2, r3, r4)] rfl HX.out (by have := HLE.out; omega) (by have := HSZ.out; simp; omega) ?_; intro v' w1 hown' hgrow)
          have HO2 := Lib.hid hown'
          have HB2 := Lib.hid (show Bel w w1 from Kk.Bel.grown (BV.out.alloc _) hgrow (fun k hk => (HOA.out.lt k hk).1))
          clear hown' hgrow
          go_wp2_with fail
          go_roundw
          case rel => exact ⟨k + 1, by omega, by go_num, Lib.hid (by rw [HN.out]; exact HO2.out), HB2⟩
          case measure => simp [intOf]; omega
    · obtain rfl : k = n := by omega
      have HL := Lib.hid (show l.take k = l from List.take_of_length_le (by rw [HR.out.len]; exact Nat.le_refl _))
      rw [HL.out] at ho
      go_wp2_with fail
      go_ret
      exact ⟨_, rfl, ho.out, hh.out⟩
set_option maxRecDepth 10000 in
set_option maxHeartbeats 2000000 in
theorem intoR (A : Option Addr) (n c : Nat) (l : List R4) (o d : Int) (w : World) (hi : Rw.RS hR w A n c l) (hn : n ≤ 1000000000) :
    Calls Try.prog 23 #[.slice A n c, .int .i64 o, .int .i64 d] w fun e w' => ∃ v, e = .returned v ∧ OwnH w' w.heap.size v (l.filter (into o d)) ∧ Bel w w' := by
  have HR := Lib.hid hi
  clear hi
  go_enter Try.func23, Try.ntmps23
  go_wp2_with fail
  go_loopw [7, 8] (fun s7 s8 wr => ∃ k : Nat, k ≤ n ∧ s8 = .int .i64 k ∧ Hid (OwnH wr w.heap.size s7 ((l.take k).filter (into o d))) ∧ Hid (Bel w wr)) (fun _ s8 _ => n - (intOf s8).toNat)
  case atStart => exact ⟨0, Nat.zero_le _, rfl, Lib.hid (Rw.OwnR.nil_ _ _ _ _), Lib.hid (Bel.refl _)⟩
  case round =>
    obtain ⟨k, hk, rfl, ho, hh⟩ := hrel
    by_cases hlt : k < n
    · obtain ⟨⟨r1, r2, r3, r4⟩, hr⟩ := HR.out.get hlt
      obtain ⟨b, q, rfl, hb, hrow⟩ := (HR.out.bel hh.out).at hlt hr
      have HNX := Lib.hid (into_next hr (into o d))
      rw [into_def] at HNX
      have HLE := Lib.hid (show ((l.take k).filter (into o d)).length ≤ k from Nat.le_trans (List.length_filter_le _ _) (by rw [List.length_take]; omega))
      have hlt3 : (k : Int) < n := by omega
      have hlt0 : (0 : Int) ≤ k := by omega
      obtain ⟨c0, c1, c2, c3⟩ := rng4 (show wr.rangeAt b (q + k * 4) [.int .i64 r1, .int .i64 r2, .int .i64 r3, .int .i64 r4] from hrow)
      clear hr hrow
      have BV := Lib.hid (show Bel w wr from hh.out)
      have HO := Lib.hid (show OwnH wr w.heap.size _ _ from ho.out)
      clear ho
      have HX := Lib.hid (Rw.rs_one hR (r := (r1, r2, r3, r4)) (Blk.new wr #[.int .i64 r1, .int .i64 r2, .int .i64 r3, .int .i64 r4] 24))
      have HOA := Lib.hid (HO.out.bel ((Bel.refl wr).alloc (.cells #[.int .i64 r1, .int .i64 r2, .int .i64 r3, .int .i64 r4] 24)))
      have HSZ := Lib.hid (Below.size BV.out)
      have NO : ∀ x : Bool, ((r1 == o) && (r3 == d)) = x → Hid ((l.take (k + 1)).filter (into o d) = (l.take k).filter (into o d) ++ (if x = true then [(r1, r2, r3, r4)] else [])) := fun x hx => by rw [hx] at HNX; exact HNX
      clear HNX
      cases h1 : (r1 == o)
      · rw [h1] at NO
        have HN := Lib.hid (NO false rfl).out
        clear NO HX HOA
        go_wp2_with fail
        go_roundw
        case rel => exact ⟨k + 1, by omega, by go_num, Lib.hid (by rw [HN.out]; simpa using HO.out), BV⟩
        case measure => simp [intOf]; omega
      · rw [h1] at NO
        cases h2 : (r3 == d)
        · rw [h2] at NO
          have HN := Lib.hid (NO false rfl).out
          clear NO HX HOA
          go_wp2_with fail
          go_roundw
          case rel => exact ⟨k + 1, by omega, by go_num, Lib.hid (by rw [HN.out]; simpa using HO.out), BV⟩
          case measure => simp [intOf]; omega
        · rw [h2] at NO
          have HN := Lib.hid (NO true rfl).out
          clear NO
          go_wp2_with (at_builtin; refine Rw.append_R hR rfl _ _ _ 24 rfl underH zero_h rfl (by decide) w.heap.size _ ((l.take k).filter (into o d)) rfl HOA.out (some ⟨wr.heap.size, 0, none⟩) 1 1 [(r1, r2, r3, r4)] rfl HX.out (by have := HLE.out; omega) (by have := HSZ.out; simp; omega) ?_; intro v' w1 hown' hgrow)
          have HO2 := Lib.hid hown'
          have HB2 := Lib.hid (show Bel w w1 from Kk.Bel.grown (BV.out.alloc _) hgrow (fun k hk => (HOA.out.lt k hk).1))
          clear hown' hgrow
          go_wp2_with fail
          go_roundw
          case rel => exact ⟨k + 1, by omega, by go_num, Lib.hid (by rw [HN.out]; exact HO2.out), HB2⟩
          case measure => simp [intOf]; omega
    · obtain rfl : k = n := by omega
      have HL := Lib.hid (show l.take k = l from List.take_of_length_le (by rw [HR.out.len]; exact Nat.le_refl _))
      rw [HL.out] at ho
      go_wp2_with fail
      go_ret
      exact ⟨_, rfl, ho.out, hh.out⟩

theorem may_def (a b c d : Int) : may (a, b, c, d) = (decide (0 ≤ b) && decide (b < 32) && decide (0 ≤ c) && decide (c < 32) && !(b == c) && decide (0 ≤ a) && decide (a < 64) && decide (1 ≤ d) && decide (d ≤ 4294967296)) := by
  rw [Bool.eq_iff_iff, may_iff]
  simp
  constructor
  · rintro ⟨h1, h2, h3, h4, h5, h6, h7, h8, h9⟩
    exact ⟨⟨⟨⟨⟨⟨⟨⟨h3, h4⟩, h5⟩, h6⟩, h7⟩, h1⟩, h2⟩, h8⟩, h9⟩
  · rintro ⟨⟨⟨⟨⟨⟨⟨⟨h3, h4⟩, h5⟩, h6⟩, h7⟩, h1⟩, h2⟩, h8⟩, h9⟩
    exact ⟨h1, h2, h3, h4, h5, h6, h7, h8, h9⟩
set_option maxRecDepth 10000 in
set_option maxHeartbeats 4000000 in
theorem mayR (a b c d : Int) (w : World) : Calls Try.prog 42 #[.agg #[.int .i64 a, .int .i64 b, .int .i64 c, .int .i64 d]] w fun e w' => e = .returned (.bool (may (a, b, c, d))) ∧ Bel w w' := by
  have P0 := Lib.hid (Blk.new w #[.int .i64 a, .int .i64 b, .int .i64 c, .int .i64 d] 24)
  obtain ⟨W, hW⟩ : ∃ W, w.alloc (.cells #[.int .i64 a, .int .i64 b, .int .i64 c, .int .i64 d] 24) = W := ⟨_, rfl⟩
  have BW := Lib.hid (show Bel w W by rw [← hW]; exact (Bel.refl w).alloc _)
  go_enter Try.func42, Try.ntmps42
  go_upto_region 1 with fail
  rw [hW] at P0
  try rw [hW]
  obtain ⟨g, hg⟩ : ∃ g, w.heap.size = g := ⟨_, rfl⟩
  rw [hg] at P0 ⊢
  clear hW hg
  have c0 := P0.out.cell 0 rfl
  have c1 := P0.out.cell 1 rfl
  have c2 := P0.out.cell 2 rfl
  have c3 := P0.out.cell 3 rfl
  by_cases h0 : 0 ≤ b
  · by_cases h1 : b < 32
    · by_cases h2 : 0 ≤ c
      · by_cases h3 : c < 32
        · by_cases h4 : b = c
          · have e4 : (b != c) = false := by simp [h4]
            have EM := Lib.hid (show may (a, b, c, d) = false from decide_eq_false (by omega))
            go_wp2_with fail
            go_ret
            exact ⟨by rw [EM.out]; rfl, BW.out⟩
          · have e4 : (b != c) = true := by simp [h4]
            by_cases h5 : 0 ≤ a
            · by_cases h6 : a < 64
              · by_cases h7 : 1 ≤ d
                · by_cases h8 : d ≤ 4294967296
                  · have EM := Lib.hid (show may (a, b, c, d) = true from decide_eq_true (by omega))
                    go_wp2_with fail
                    go_ret
                    exact ⟨by rw [EM.out]; rfl, BW.out⟩
                  · have EM := Lib.hid (show may (a, b, c, d) = false from decide_eq_false (by omega))
                    go_wp2_with fail
                    go_ret
                    exact ⟨by rw [EM.out]; rfl, BW.out⟩
                · have EM := Lib.hid (show may (a, b, c, d) = false from decide_eq_false (by omega))
                  go_wp2_with fail
                  go_ret
                  exact ⟨by rw [EM.out]; rfl, BW.out⟩
              · have EM := Lib.hid (show may (a, b, c, d) = false from decide_eq_false (by omega))
                go_wp2_with fail
                go_ret
                exact ⟨by rw [EM.out]; rfl, BW.out⟩
            · have EM := Lib.hid (show may (a, b, c, d) = false from decide_eq_false (by omega))
              go_wp2_with fail
              go_ret
              exact ⟨by rw [EM.out]; rfl, BW.out⟩
        · have EM := Lib.hid (show may (a, b, c, d) = false from decide_eq_false (by omega))
          go_wp2_with fail
          go_ret
          exact ⟨by rw [EM.out]; rfl, BW.out⟩
      · have EM := Lib.hid (show may (a, b, c, d) = false from decide_eq_false (by omega))
        go_wp2_with fail
        go_ret
        exact ⟨by rw [EM.out]; rfl, BW.out⟩
    · have EM := Lib.hid (show may (a, b, c, d) = false from decide_eq_false (by omega))
      go_wp2_with fail
      go_ret
      exact ⟨by rw [EM.out]; rfl, BW.out⟩
  · have EM := Lib.hid (show may (a, b, c, d) = false from decide_eq_false (by omega))
    go_wp2_with fail
    go_ret
    exact ⟨by rw [EM.out]; rfl, BW.out⟩
set_option maxRecDepth 100000 in
set_option maxHeartbeats 4000000 in
theorem checkR (A : Option Addr) (n c : Nat) (l : List R4) (w : World) (hi : Rw.RS hR w A n c l) (hn : n ≤ 1000000000) :
    Calls Try.prog 12 #[.slice A n c] w fun e w' => e = .returned (.tuple #[.int .i64 (chk l).1, .int .i64 (chk l).2]) ∧ Bel w w' := by
  have HR := Lib.hid hi
  have HL := Lib.hid hi.len
  clear hi
  by_cases hlong : 4096 < n
  · have e : chk l = (4, 4096) := if_pos (by rw [HL.out]; exact hlong)
    rw [e]
    clear e
    have hlong3 : (4096 : Int) < n := by omega
    go_enter Try.func12, Try.ntmps12
    go_wp2_with fail
    go_ret2
    exact ⟨rfl, Bel.refl _⟩
  have e : chk l = ck 0 l 0 := if_neg (by rw [HL.out]; exact hlong)
  rw [e]
  clear e
  obtain ⟨R, hRR⟩ : ∃ R, ck 0 l 0 = R := ⟨_, rfl⟩
  rw [hRR]
  have HRR := Lib.hid hRR
  have hlong3 : ¬ (4096 : Int) < n := by omega
  clear hRR
  go_enter Try.func12, Try.ntmps12
  go_wp2_with fail
  go_loopw [4] (fun s4 wr => ∃ k : Nat, k ≤ n ∧ s4 = .int .i64 k ∧ Hid ((∀ (j : Nat) (x : R4), j < k → l[j]? = some x → hE (bef 0 l j) x = 0) ∧ Bel w wr)) (fun s4 _ => n - (intOf s4).toNat)
  case atStart => exact ⟨0, Nat.zero_le _, rfl, Lib.hid ⟨fun j x hj => absurd hj (by omega), Bel.refl _⟩⟩
  case round =>
    obtain ⟨k, hk, rfl, hh⟩ := hrel
    by_cases hlt : k < n
    · obtain ⟨⟨r1, r2, r3, r4⟩, hr⟩ := HR.out.get hlt
      obtain ⟨b, o, rfl, hb, hrow⟩ := (HR.out.bel hh.out.2).at hlt hr
      have HRR1 := Lib.hid hr
      have AT := Lib.hid (show hE (bef 0 l k) (r1, r2, r3, r4) ≠ 0 → R = (hE (bef 0 l k) (r1, r2, r3, r4), k) from fun h0 => by
        have := ck_at l 0 0 k _ hh.out.1 hr h0
        rw [HRR.out, Nat.zero_add] at this
        exact this)
      have hlt3 : (k : Int) < n := by omega
      have hlt0 : (0 : Int) ≤ k := by omega
      obtain ⟨c0, c1, c2, c3⟩ := rng4 (show wr.rangeAt b (o + k * 4) [.int .i64 r1, .int .i64 r2, .int .i64 r3, .int .i64 r4] from hrow)
      have MY := Lib.hid (mayR r1 r2 r3 r4 wr)
      obtain ⟨y, hy⟩ : ∃ y, may (r1, r2, r3, r4) = y := ⟨_, rfl⟩
      rw [hy] at MY
      have HY := Lib.hid hy
      clear hr hrow hy
      go_wp2_with fail
      refine MY.out.mono ?_
      rintro e w1 ⟨rfl, kb⟩
      have K1 := Lib.hid (hh.out.2.trans kb)
      clear kb MY c0 c1 c2 c3
      cases y
      · obtain rfl : R = (3, k) := by have h0 := AT.out (by rw [hE_3 HY.out]; decide); rwa [hE_3 HY.out] at h0
        go_wp2_with fail
        go_ret2
        exact ⟨rfl, K1.out⟩
      · obtain ⟨b', o', e', hb', hrow'⟩ := (HR.out.bel K1.out).at hlt HRR1.out
        injection e' with e'
        injection e' with e1 e2
        subst e1 e2
        obtain ⟨c0, c1, c2, c3⟩ := rng4 (show w1.rangeAt b (o + k * 4) [.int .i64 r1, .int .i64 r2, .int .i64 r3, .int .i64 r4] from hrow')
        clear hrow'
        have NXT : Hid (hE (bef 0 l k) (r1, r2, r3, r4) = 0) → ∀ V, Bel w1 V → Hid ((∀ (j : Nat) (x : R4), j < k + 1 → l[j]? = some x → hE (bef 0 l j) x = 0) ∧ Bel w V) := fun hz V hV => Lib.hid ⟨fun j x hj hx => by
          rcases Nat.lt_or_ge j k with h' | h'
          · exact hh.out.1 j x h' hx
          · obtain rfl : j = k := by omega
            have := HRR1.out.symm.trans hx
            injection this with this
            rw [← this]; exact hz.out, K1.out.trans hV⟩
        have NXT := Lib.hid NXT
        by_cases h0 : k = 0
        · subst h0
          have HZ := Lib.hid (hE_mk HY.out (show bef 0 l 0 ≤ r4 by have := (may_cr HY.out).1; show (0 : Int) ≤ r4; have h2 : cr (r1, r2, r3, r4) = r4 := rfl; omega))
          go_upto_region 8 with fail
          go_quiet (fail)
          go_wp2_with fail
          go_roundw
          case rel => exact ⟨1, by omega, rfl, NXT.out HZ _ (by first | exact Bel.refl _ | exact bel_drewN _ _)⟩
          case measure => simp [intOf]; omega
        · obtain ⟨⟨p1, p2, p3, p4⟩, hp⟩ := HR.out.get (show k - 1 < n by omega)
          obtain ⟨b', o', e', hb', hrow'⟩ := (HR.out.bel K1.out).at (show k - 1 < n by omega) hp
          injection e' with e'
          injection e' with e1 e2
          subst e1 e2
          obtain ⟨d0, d1, d2, d3⟩ := rng4 (show w1.rangeAt b (o + (k - 1) * 4) [.int .i64 p1, .int .i64 p2, .int .i64 p3, .int .i64 p4] from hrow')
          obtain ⟨j, hj⟩ : ∃ j, k = j + 1 := ⟨k - 1, by omega⟩
          subst hj
          rw [Nat.add_sub_cancel] at d3 hp
          have HB := Lib.hid (show bef 0 l (j + 1) = p4 from bef_succ hp)
          have hs : IntKind.i64.wrap (((j + 1 : Nat) : Int) - 1) = (j : Int) := by rw [IntWalk.i64_in _ (by omega)]; omega
          clear hrow' hp h0 d0 d1 d2 c0 c1 c2
          by_cases h6 : r4 < p4
          · have E9 := hE_9 HY.out (show cr (r1, r2, r3, r4) < bef 0 l (j + 1) by rw [HB.out]; exact h6)
            obtain rfl : R = (9, j + 1) := by have h0 := AT.out (by rw [E9]; decide); rwa [E9] at h0
            clear E9
            go_upto_region 8 with fail
            go_quiet (fail)
            go_wp2_with fail
            go_ret2
            exact ⟨rfl, K1.out.trans (by first | exact Bel.refl _ | exact bel_drewN _ _)⟩
          · have HZ := Lib.hid (hE_mk HY.out (show bef 0 l (j + 1) ≤ cr (r1, r2, r3, r4) by rw [HB.out]; show p4 ≤ r4; omega))
            go_upto_region 8 with fail
            go_quiet (fail)
            go_wp2_with fail
            go_roundw
            case rel => exact ⟨j + 2, by omega, by go_num, NXT.out HZ _ (by first | exact Bel.refl _ | exact bel_drewN _ _)⟩
            case measure => simp [intOf]; omega
    · obtain rfl : k = n := by omega
      have h0 : R = (0, 0) := HRR.out.symm.trans (ck_end l 0 0 (fun j x hx => hh.out.1 j x (by have := (List.getElem?_eq_some_iff.1 hx).1; have := HL.out; omega) hx))
      subst h0
      go_wp2_with fail
      go_ret2
      exact ⟨rfl, hh.out.2⟩
set_option maxRecDepth 100000 in
set_option maxHeartbeats 4000000 in
theorem countR (A : Option Addr) (n c : Nat) (l : List R4) (o s d : Int) (w : World) (hi : Rw.RS hR w A n c l) (hn : n ≤ 1000000000) :
    Calls Try.prog 16 #[.slice A n c, .int .i64 o, .int .i64 s, .int .i64 d] w fun e w' => e = .returned (.int .i64 (cnt l o s d)) ∧ Bel w w' := by
  have HR := Lib.hid hi
  clear hi
  go_enter Try.func16, Try.ntmps16
  go_wp2_with fail
  go_loopw [9, 10] (fun s9 s10 wr => ∃ k m : Nat, k ≤ n ∧ s10 = .int .i64 k ∧ m ≤ k ∧ s9 = .int .i64 m ∧ Hid (cnt (l.take k) o s d = m ∧ Bel w wr)) (fun _ s10 _ => n - (intOf s10).toNat)
  case atStart => exact ⟨0, 0, Nat.zero_le _, rfl, Nat.le_refl _, rfl, Lib.hid ⟨rfl, Bel.refl _⟩⟩
  case round =>
    obtain ⟨k, m, hk, rfl, hm, rfl, hh⟩ := hrel
    by_cases hlt : k < n
    · obtain ⟨⟨r1, r2, r3, r4⟩, hr⟩ := HR.out.get hlt
      obtain ⟨b, q, rfl, hb, hrow⟩ := (HR.out.bel hh.out.2).at hlt hr
      have HNX := Lib.hid (show cnt (l.take (k + 1)) o s d = m + (if goes o s d (r1, r2, r3, r4) = true then 1 else 0) by rw [cnt_take hr, hh.out.1])
      rw [goes_def] at HNX
      have HBE := Lib.hid hh.out.2
      have hlt3 : (k : Int) < n := by omega
      have hlt0 : (0 : Int) ≤ k := by omega
      obtain ⟨c0, c1, c2, c3⟩ := rng4 (show wr.rangeAt b (q + k * 4) [.int .i64 r1, .int .i64 r2, .int .i64 r3, .int .i64 r4] from hrow)
      clear hr hrow
      have NO : ∀ x : Bool, ((r1 == o) && (r2 == s) && (r3 == d)) = x → Hid (cnt (l.take (k + 1)) o s d = m + (if x = true then 1 else 0)) := fun x hx => by rw [hx] at HNX; exact HNX
      clear HNX
      cases h1 : (r1 == o)
      · rw [h1] at NO
        have HN := Lib.hid (NO false rfl).out
        clear NO
        go_wp2_with fail
        go_roundw
        case rel => exact ⟨k + 1, m, by omega, by go_num, by omega, rfl, Lib.hid ⟨HN.out, HBE.out⟩⟩
        case measure => simp [intOf]; omega
      · rw [h1] at NO
        cases h2 : (r2 == s)
        · rw [h2] at NO
          have HN := Lib.hid (NO false rfl).out
          clear NO
          go_wp2_with fail
          go_roundw
          case rel => exact ⟨k + 1, m, by omega, by go_num, by omega, rfl, Lib.hid ⟨HN.out, HBE.out⟩⟩
          case measure => simp [intOf]; omega
        · rw [h2] at NO
          cases h3 : (r3 == d)
          · rw [h3] at NO
            have HN := Lib.hid (NO false rfl).out
            clear NO
            go_wp2_with fail
            go_roundw
            case rel => exact ⟨k + 1, m, by omega, by go_num, by omega, rfl, Lib.hid ⟨HN.out, HBE.out⟩⟩
            case measure => simp [intOf]; omega
          · rw [h3] at NO
            have HN := Lib.hid (NO true rfl).out
            clear NO
            go_wp2_with fail
            go_roundw
            case rel => exact ⟨k + 1, m + 1, by omega, by go_num, by omega, by go_num, Lib.hid ⟨HN.out, HBE.out⟩⟩
            case measure => simp [intOf]; omega
    · obtain rfl : k = n := by omega
      have HL := Lib.hid (show l.take k = l from List.take_of_length_le (by rw [HR.out.len]; exact Nat.le_refl _))
      have HM := Lib.hid hh.out.1
      have HBE := Lib.hid hh.out.2
      go_wp2_with fail
      go_ret
      exact ⟨by rw [← HM.out, HL.out]; rfl, HBE.out⟩
end Hp
end Go.Proofs.Ytahhnfnonekbmaa
end

section
/-
  A map that the call has made and counts in (m[k]++): an entry is found or made, then stored into. No condition but that the key is one.
-/
namespace Go.Proofs.Ytahhnfnonekbmaa
open Go.RowKit Go.Shelf
set_option linter.unusedVariables false
namespace Ms
open Go.Maps Go.WideElems Go.WideMaps Go.ChangeMaps Kk Pm

theorem arr_twice {α : Type} (a : Array α) (b : Nat) (x y : α) : (a.setIfInBounds b x).setIfInBounds b y = a.setIfInBounds b y := by
  apply Array.ext (by simp)
  intro i h1 h2
  rw [Array.getElem_setIfInBounds (by simpa using h1), Array.getElem_setIfInBounds (by simpa using h1)]
  rw [Array.getElem_setIfInBounds (by simpa using h1)]
  split <;> rfl
theorem setBlock_twice (w : World) (b : Nat) (x y : Obj) : setBlock (setBlock w b x) b y = setBlock w b y := by
  unfold setBlock
  rw [arr_twice]
section
variable {H : Type} {P : Program} {w : World} {t k e : TypeId} {R : Value → Option (DataW H × List MemPlace)} {b n : Nat} {D : DataW H}
theorem grown_set {es : Array MapEntry} {clock : Nat} (hb : w.heap[b]? = some (.map es clock)) (o : Obj) : w.grownBy (setBlock w b o) (some b) :=
  ⟨rfl, rfl, rfl, by simp [setBlock], fun i _ hi => heap_setBlock_other hb _ (fun e => hi (by rw [e]))⟩
/-- The two halves of m[k] op= v. -/
theorem own_entry (h : w.ownsMap P k R b n D) (K : KeyLaw P k) (ht : P.underlying t = some (.map k e)) {z : Value} (hz : ∀ u : World, (zeroValue e).run P u = .ok z u) {zd : DataW H} {zp : List MemPlace} (hR : R z = some (zd, zp)) (hn : n < maxLen) {key : Value} {kl : Lit} (hkey : keyOf P k key = some kl) :
    ∃ (v0 : Value) (st : Int) (W1 : World) (D1 : DataW H), (Instr.mapEntry t (.map (some b)) key).run P w = .ok (.tuple #[v0, .int .i64 st]) W1 ∧ w.grownBy W1 (some b) ∧ (W1.ownsMap P k R b (n + 1) D1 ∧ ∀ kl', D1.atKey kl' zd = D.atKey kl' zd) ∧
      ∀ (val : Value) (d : DataW H) (ps : List MemPlace), R val = some (d, ps) → ∃ W2, (Instr.entryStore t (.map (some b)) (.int .i64 st) val).run P W1 = .ok () W2 ∧ W2.ownsMap P k R b (n + 1) (D.put kl d) ∧ w.grownBy W2 (some b) := by
  have h0 := h
  obtain ⟨es, clock, hb, F, hs, rfl⟩ := h
  obtain ⟨v0, st, es1, clock1, h1, _, h2⟩ := entry_then_store K ht hz hb F hkey
  have hD1 : ∃ D1, (setBlock w b (.map es1 clock1)).ownsMap P k R b (n + 1) D1 ∧ ∀ kl', D1.atKey kl' zd = (DataW.map ((es.toList.map (rg P k R)).foldr DataW.insert [])).atKey kl' zd := by
    rcases K.find w hkey es.toList F.keys with ⟨f1, f2⟩ | ⟨j, e0, f1, f2, f3⟩
    · have h1' : (Instr.mapEntry t (.map (some b)) key).run P w = .ok (.tuple #[z, goInt clock]) (setBlock w b (.map (es.push ⟨key, z, clock⟩) (clock + 1))) := by
        simp [Instr.mapEntry, run_underlying ht, MapKept.run_getObj_map hb, K.check w false hkey, f1, hz, MapKept.run_setObj_map _ hb, Result.andThen, setBlock]
      have hu : (Instr.mapUpdate t (.map (some b)) key z).run P w = .ok () (setBlock w b (.map (es.push ⟨key, z, clock⟩) (clock + 1))) := by
        simp [Instr.mapUpdate, run_underlying ht, MapKept.run_getObj_map hb, K.check w false hkey, f1, MapKept.run_setObj_map _ hb, Result.andThen, setBlock]
      obtain ⟨w', h5, h6, h7⟩ := h0.update (Keyed.of_law K) ht hn hkey hR
      rw [hu] at h5
      injection h5 with _ h5
      rw [h1] at h1'
      injection h1' with _ h1'
      refine ⟨(DataW.map ((es.toList.map (rg P k R)).foldr DataW.insert [])).put kl zd, ?_, fun kl' => ?_⟩
      · rw [h1', h5]; exact h6
      · by_cases hk : kl' = kl
        · subst hk
          rw [atKey_put_same ⟨_, rfl⟩ ((Keyed.of_law K).key hkey)]
          rcases Maps.fit_look false (Keyed.of_law K) ht (hz w) hb F hkey with ⟨_, _, hat⟩ | ⟨e0, y, q1, q2, _⟩
          · exact (hat zd).symm
          · exact absurd q2 (f2 e0 q1)
        · rw [atKey_put_other hk]
    · have hj : es[j]? = some e0 := by simpa using f2
      have hsame : es.modify j (fun e => { e with key := key }) = es := by
        apply Array.ext'
        rw [Array.toList_modify, modify_eq_set _ _ _ _ f2]
        have : ({ e0 with key := key } : MapEntry) = e0 := by rw [← f3]
        rw [this]
        exact set_self _ _ _ f2
      have h1' : (Instr.mapEntry t (.map (some b)) key).run P w = .ok (.tuple #[e0.val, goInt e0.born]) (setBlock w b (.map es clock)) := by
        simp [Instr.mapEntry, run_underlying ht, MapKept.run_getObj_map hb, K.check w false hkey, f1, hj, f3, K.stays w hkey, hsame, MapKept.run_setObj_map _ hb, Result.andThen, setBlock]
      rw [h1] at h1'
      injection h1' with _ h1'
      rw [h1']
      exact ⟨DataW.map ((es.toList.map (rg P k R)).foldr DataW.insert []), ⟨es, clock, heap_setBlock_same hb _, F, by omega, rfl⟩, fun kl' => rfl⟩
  obtain ⟨D1, q1, q2⟩ := hD1
  refine ⟨v0, st, setBlock w b (.map es1 clock1), D1, h1, grown_set hb _, ⟨q1, q2⟩, fun val d ps hv => ?_⟩
  obtain ⟨es', clock', h3, h4⟩ := h2 (setBlock w b (.map es1 clock1)) val (heap_setBlock_same hb _)
  obtain ⟨w', h5, h6, h7⟩ := h0.update (Keyed.of_law K) ht hn hkey hv
  rw [h4] at h5
  injection h5 with _ h5
  subst h5
  refine ⟨_, h3, ?_, ?_⟩
  · rw [setBlock_twice]; exact h6
  · rw [setBlock_twice]; exact h7
end
theorem kep_grown {w w' : World} {b : Nat} (h : w.grownBy w' (some b)) : Kep (fun i => i = b) w w' :=
  ⟨h.os, h.tape, h.output, h.size, fun i hi hb => h.block i hi (fun e => hb (by injection e))⟩
end Ms
end Go.Proofs.Ytahhnfnonekbmaa
end

section
/-
  What hop.counts and hop.Count answer of any list of hops. Conditions: at most a billion hops; the numbers are ints.
-/
namespace Go.Proofs.Ytahhnfnonekbmaa
open Go.RowKit Go.Shelf
set_option linter.unusedVariables false
set_option linter.unusedSimpArgs false
namespace Hp
open Kk Pm Go.Maps Go.WideElems Go.WideMaps

def I64 (x : Int) : Prop := -9223372036854775808 ≤ x ∧ x ≤ 9223372036854775807
def W3 : R4 → Prop
  | (a, b, c, _) => I64 a ∧ I64 b ∧ I64 c
set_option maxRecDepth 100000 in
theorem laidOut : laidOutB Try.prog = true := by kernel_rfl
theorem underW : (match Try.prog.underlying 68 with | some (.array _ _) | some (.struct _) => true | _ => false) = true := by kernel_rfl
set_option maxRecDepth 100000 in
theorem lawW : KeyLaw Try.prog 68 := deep_law_laid laidOut (m := 2) (by omega) (of_decide_eq_true (by kernel_rfl)) (by kernel_rfl) underW
theorem underM : Try.prog.underlying 65 = some (.map 68 3) := by kernel_rfl
theorem zeroI (w : World) : (zeroValue 3).run Try.prog w = .ok (.int .i64 0) w := by kernel_rfl
theorem underI : Try.prog.underlying 3 = some (.int .i64) := by kernel_rfl
def wayV (a b c : Int) : Value := .agg #[.int .i64 a, .int .i64 b, .int .i64 c]
theorem wf64 {a : Int} (h : I64 a) : (Lit.int .i64 a).wf = true := WalkArith.wf_i64 h
set_option maxRecDepth 100000 in
theorem key3 {a b c : Int} (ha : I64 a) (hb : I64 b) (hc : I64 c) : ∃ kl, keyOf Try.prog 68 (wayV a b c) = some kl := by
  have h1 : Try.prog.keyType 68 = true := by kernel_rfl
  have hz : Try.prog.cellsOf 68 = 3 := by kernel_rfl
  have hi : Try.prog.cellsOf 3 = 1 := by kernel_rfl
  have hi2 := underI
  have hpos : 0 < Try.prog.types.size := of_decide_eq_true (by kernel_rfl)
  obtain ⟨d, hd⟩ : ∃ d, Try.prog.types.size = d + 1 := ⟨Try.prog.types.size - 1, by omega⟩
  clear hpos
  have hu := Try.underlying68
  have hfm : (wayV a b c).formed Try.prog 68 = true := by simp [Value.formed, wayV, hu, hz]
  have hk : ∀ x, I64 x → Try.prog.keyLits (d + 1) 3 [.int .i64 x] = some [.int .i64 x] := fun x hx => by
    unfold Program.keyLits
    simp [hi2, wf64 hx]
  have hl : Try.prog.keyLits (d + 1 + 1) 68 [.int .i64 a, .int .i64 b, .int .i64 c] = some [.int .i64 a, .int .i64 b, .int .i64 c] := by
    unfold Program.keyLits
    rw [hu]
    simp [hz, hi, hk a ha, hk b hb, hk c hc]
  refine ⟨.string (keyBytes [.int .i64 a, .int .i64 b, .int .i64 c]), ?_⟩
  unfold keyOf
  rw [hu]
  simp only [h1, hfm, Bool.and_self, if_true, hd]
  show Option.map _ (Try.prog.keyLits (d + 1 + 1) 68 [.int .i64 a, .int .i64 b, .int .i64 c]) = _
  rw [hl]
  rfl
/-- A map that counts ways. -/
def Mp (w : World) (b n : Nat) (f : Int → Int → Int → Nat) : Prop :=
  ∃ D : DataW Unit, w.ownsMap Try.prog 68 (plainElem Try.prog 3) b n D ∧ IsMap D ∧ ∀ o s d kl, keyOf Try.prog 68 (wayV o s d) = some kl → D.atKey kl (.lit (.int .i64 0)) = .lit (.int .i64 (f o s d))
theorem mp_made (w : World) : Mp (w.alloc (.map #[] 0)) w.heap.size 0 (fun _ _ _ => 0) :=
  ⟨.map [], World.ownsMap_made _ _ _ _, isMap_empty, fun o s d kl _ => rfl⟩
set_option maxRecDepth 100000 in
theorem mp_look {w : World} {b n : Nat} {f : Int → Int → Int → Nat} (h : Mp w b n f) {o s d : Int} (ho : I64 o) (hs : I64 s) (hd : I64 d) : (Instr.lookup 65 (.map (some b)) (wayV o s d) false).run Try.prog w = .ok (.int .i64 (f o s d)) w := by
  obtain ⟨D, h1, _, h2⟩ := h
  obtain ⟨kl, hk⟩ := key3 ho hs hd
  obtain ⟨c, h3, h4, _⟩ := h1.lookup_int (Keyed.of_law lawW) underM underI (zeroI w) hk
  rw [h2 o s d kl hk] at h4
  injection h4 with h4
  injection h4 with _ h4
  rw [h3, ← h4]
theorem mp_kept {w w' : World} {b n : Nat} {f : Int → Int → Int → Nat} (h : Mp w b n f) (hb : Bel w w') : Mp w' b n f := by
  obtain ⟨D, h1, h2⟩ := h
  exact ⟨D, h1.kept (row := none) ⟨hb.os, hb.tape, hb.output, hb.size, fun k hk _ => hb.block k hk⟩ (by simp), h2⟩
set_option maxRecDepth 100000 in
theorem mp_entry {w : World} {b n : Nat} {f : Int → Int → Int → Nat} (h : Mp w b n f) (hn : n < 1000000001) {o s d : Int} (ho : I64 o) (hs : I64 s) (hd : I64 d) (hf : f o s d ≤ 1000000000) :
    ∃ (v0 : Value) (st : Int) (W1 : World), (Instr.mapEntry 65 (.map (some b)) (wayV o s d)).run Try.prog w = .ok (.tuple #[v0, .int .i64 st]) W1 ∧ w.grownBy W1 (some b) ∧ Mp W1 b (n + 1) f ∧
      ∃ W2, (Instr.entryStore 65 (.map (some b)) (.int .i64 st) (.int .i64 (((f o s d : Nat) : Int) + 1))).run Try.prog W1 = .ok () W2 ∧ w.grownBy W2 (some b) ∧ Mp W2 b (n + 1) (fun o' s' d' => if o' = o ∧ s' = s ∧ d' = d then f o s d + 1 else f o' s' d') := by
  obtain ⟨D, h1, hm, h2⟩ := h
  obtain ⟨kl, hk⟩ := key3 ho hs hd
  obtain ⟨v0, st, W1, D1, h3, h4, ⟨q1, q2⟩, h5⟩ := Ms.own_entry h1 lawW underM zeroI (plainElem_int underI (WalkArith.wf_i64 (by omega))) (by unfold maxLen; omega) hk
  obtain ⟨W2, h6, h7, h8⟩ := h5 (.int .i64 (((f o s d : Nat) : Int) + 1)) _ _ (plainElem_int underI (WalkArith.wf_i64 (by omega)))
  refine ⟨v0, st, W1, h3, h4, ⟨D1, q1, q1.isMap, fun o' s' d' kl' hk' => by rw [q2]; exact h2 o' s' d' kl' hk'⟩, W2, h6, h8, _, h7, hm.put _ _, fun o' s' d' kl' hk' => ?_⟩
  show _ = DataW.lit (Lit.int .i64 (((if o' = o ∧ s' = s ∧ d' = d then f o s d + 1 else f o' s' d' : Nat)) : Int))
  by_cases he : o' = o ∧ s' = s ∧ d' = d
  · obtain ⟨rfl, rfl, rfl⟩ := he
    rw [if_pos ⟨rfl, rfl, rfl⟩]
    rw [hk] at hk'
    injection hk' with hk'
    subst hk'
    rw [atKey_put_same hm ((Keyed.of_law lawW).key hk)]
    push_cast
    rfl
  · rw [if_neg he, atKey_put_other, h2 o' s' d' kl' hk']
    intro e
    subst e
    have := lawW.inj hk hk'
    refine he ?_
    unfold wayV at this
    injection this with this
    have := congrArg Array.toList this
    simp at this
    exact ⟨this.1.symm, this.2.1.symm, this.2.2.symm⟩

set_option maxRecDepth 100000 in
set_option maxHeartbeats 4000000 in
theorem counts (A : Option Addr) (n c : Nat) (l : List R4) (w : World) (hi : Rw.RS hR w A n c l) (hn : n ≤ 1000000000) (h3 : ∀ r ∈ l, W3 r) :
    Calls Try.prog 45 #[.slice A n c] w fun e w' => ∃ m, e = .returned (.map (some m)) ∧ Mp w' m n (fun o s d => cnt l o s d) ∧ Bel w w' := by
  have HR := Lib.hid hi
  have H3 := Lib.hid h3
  have hmm := @run_makeMap Try.prog
  clear hi h3
  go_enter Try.func45, Try.ntmps45
  have HM := Lib.hid (mp_made w)
  have BM := Lib.hid ((Bel.refl w).alloc (.map #[] 0))
  obtain ⟨m, hm⟩ : ∃ m, w.heap.size = m := ⟨_, rfl⟩
  have HMS := Lib.hid hm
  rw [hm] at HM
  clear hm
  go_wp2_with fail
  try rw [HMS.out]
  go_loopw [9] (fun s9 wr => ∃ k : Nat, k ≤ n ∧ s9 = .int .i64 k ∧ Hid (Mp wr m k (fun o s d => cnt (l.take k) o s d)) ∧ Hid (Bel w wr)) (fun s9 _ => n - (intOf s9).toNat)
  case atStart => exact ⟨0, Nat.zero_le _, rfl, HM, BM⟩
  case round =>
    obtain ⟨k, hk, rfl, hmp, hh⟩ := hrel
    by_cases hlt : k < n
    · obtain ⟨⟨r1, r2, r3, r4⟩, hr⟩ := HR.out.get hlt
      obtain ⟨b, q, rfl, hb, hrow⟩ := (HR.out.bel hh.out).at hlt hr
      have HNX := Lib.hid (fun o s d => cnt_take hr o s d)
      obtain ⟨hw1, hw2, hw3⟩ := H3.out _ (List.mem_of_getElem? hr)
      have HW := Lib.hid (⟨hw1, hw2, hw3⟩ : I64 r1 ∧ I64 r2 ∧ I64 r3)
      have hlt3 : (k : Int) < n := by omega
      have hlt0 : (0 : Int) ≤ k := by omega
      obtain ⟨c0, c1, c2, c3⟩ := rng4 (show wr.rangeAt b (q + k * 4) [.int .i64 r1, .int .i64 r2, .int .i64 r3, .int .i64 r4] from hrow)
      have HCL := Lib.hid (show cnt (l.take k) r1 r2 r3 ≤ k from Nat.le_trans (cnt_le _ _ _ _) (by rw [List.length_take]; omega))
      clear hr hrow hw1 hw2 hw3
      go_upto_region 5 with fail
      have P0 := Lib.hid (Blk.new wr #[.int .i64 r1, .int .i64 r2, .int .i64 r3, .int .i64 r4] 24)
      obtain ⟨V, hV⟩ : ∃ V, wr.alloc (.cells #[.int .i64 r1, .int .i64 r2, .int .i64 r3, .int .i64 r4] 24) = V := ⟨_, rfl⟩
      have BV := Lib.hid (show Bel w V by rw [← hV]; exact hh.out.alloc _)
      have MV := Lib.hid (show Mp V m k _ by rw [← hV]; exact mp_kept hmp.out ((Bel.refl _).alloc _))
      rw [hV] at P0 ⊢
      obtain ⟨g, hg⟩ : ∃ g, wr.heap.size = g := ⟨_, rfl⟩
      have HGM := Lib.hid (show g ≠ m from fun e => by
        obtain ⟨D, h1, _⟩ := hmp.out
        have := h1.lt
        omega)
      rw [hg] at P0 ⊢
      clear hV hg c0 c1 c2 c3 hmp
      refine wp_region_held_drew (S := fun Vx => Kep (fun i => i = m) V Vx) (by kernel_rfl) (Kep.drew (Kep.refl _ _)) (fun hS0 => ?_)
      have MW := Lib.hid (mp_kept MV.out ((Bel.refl V).drew))
      obtain ⟨w7, hw7⟩ : ∃ w7, World.drew V = w7 := ⟨_, rfl⟩
      rw [hw7] at hS0 MW ⊢
      clear hw7 MV
      have hLK := mp_look MW.out HW.out.1 HW.out.2.1 HW.out.2.2
      obtain ⟨v0, st, W1, hME, hg1, hM1, W2, hES, hg2, hM2⟩ := mp_entry MW.out (by omega) HW.out.1 HW.out.2.1 HW.out.2.2 (by have := HCL.out; omega)
      have hLK1 := mp_look hM1 HW.out.1 HW.out.2.1 HW.out.2.2
      obtain ⟨C, hC⟩ : ∃ C, cnt (l.take k) r1 r2 r3 = C := ⟨_, rfl⟩
      rw [hC] at hLK hLK1 hES HCL
      have HCC := Lib.hid hC
      have HM2 := Lib.hid hM2
      have HG1 := Lib.hid hg1
      have HG2 := Lib.hid hg2
      have hwr : IntKind.i64.wrap ((C : Int) + 1) = (C : Int) + 1 := IntWalk.i64_in _ (by have := HCL.out; omega)
      unfold wayV at hLK hLK1 hME
      clear hC hM1 hM2 hg1 hg2
      refine wpAnyH_take (i := 0) (oi := { dst := some 13, op := .move (.tmp 3), type := 65, pos := "hop.go:20", after := #[], guard := none }) (v := .map (some m)) rfl (by kernel_rfl) (by kernel_rfl) (by kernel_rfl) (fun _ _ _ h => h) (Or.inl ⟨by rfl, by intro w hSw; clear hSw; go_simp⟩) hS0 ?_
      try simp only [Act.put, List.setIfInBounds_toArray, List.set_cons_zero, List.set_cons_succ]
      refine wpAnyH_take (i := 1) (oi := { dst := some 14, op := .fieldAddr 24 (.tmp 5) 0, type := 0, pos := "hop.go:20", after := #[], guard := none }) (v := .pointer (some ⟨g, 0, none⟩)) rfl (by kernel_rfl) (by kernel_rfl) (by kernel_rfl) (fun _ _ _ h => h) (Or.inl ⟨by rfl, by intro w hSw; clear hSw; go_simp⟩) hS0 ?_
      try simp only [Act.put, List.setIfInBounds_toArray, List.set_cons_zero, List.set_cons_succ]
      refine wpAnyH_take (i := 2) (oi := { dst := some 15, op := .load 3 (.tmp 14), type := 3, pos := "hop.go:20", after := #[{ on := 1, ground := .data }], guard := none }) (v := .int .i64 r1) rfl (by kernel_rfl) (by kernel_rfl) (by kernel_rfl) (fun _ _ _ h => h) (Or.inl ⟨by rfl, by intro w h; have hcell := ((P0.out.kep h HGM.out).cell 0 rfl); clear h; go_simp⟩) hS0 ?_
      try simp only [Act.put, List.setIfInBounds_toArray, List.set_cons_zero, List.set_cons_succ]
      refine wpAnyH_take (i := 3) (oi := { dst := some 16, op := .fieldAddr 24 (.tmp 5) 1, type := 0, pos := "hop.go:20", after := #[], guard := none }) (v := .pointer (some ⟨g, 1, none⟩)) rfl (by kernel_rfl) (by kernel_rfl) (by kernel_rfl) (fun _ _ _ h => h) (Or.inl ⟨by rfl, by intro w hSw; clear hSw; go_simp⟩) hS0 ?_
      try simp only [Act.put, List.setIfInBounds_toArray, List.set_cons_zero, List.set_cons_succ]
      refine wpAnyH_take (i := 4) (oi := { dst := some 17, op := .load 3 (.tmp 16), type := 3, pos := "hop.go:20", after := #[{ on := 3, ground := .data }], guard := none }) (v := .int .i64 r2) rfl (by kernel_rfl) (by kernel_rfl) (by kernel_rfl) (fun _ _ _ h => h) (Or.inl ⟨by rfl, by intro w h; have hcell := ((P0.out.kep h HGM.out).cell 1 rfl); clear h; go_simp⟩) hS0 ?_
      try simp only [Act.put, List.setIfInBounds_toArray, List.set_cons_zero, List.set_cons_succ]
      refine wpAnyH_take (i := 5) (oi := { dst := some 18, op := .fieldAddr 24 (.tmp 5) 2, type := 0, pos := "hop.go:20", after := #[], guard := none }) (v := .pointer (some ⟨g, 2, none⟩)) rfl (by kernel_rfl) (by kernel_rfl) (by kernel_rfl) (fun _ _ _ h => h) (Or.inl ⟨by rfl, by intro w hSw; clear hSw; go_simp⟩) hS0 ?_
      try simp only [Act.put, List.setIfInBounds_toArray, List.set_cons_zero, List.set_cons_succ]
      refine wpAnyH_take (i := 6) (oi := { dst := some 19, op := .load 3 (.tmp 18), type := 3, pos := "hop.go:20", after := #[{ on := 5, ground := .data }], guard := none }) (v := .int .i64 r3) rfl (by kernel_rfl) (by kernel_rfl) (by kernel_rfl) (fun _ _ _ h => h) (Or.inl ⟨by rfl, by intro w h; have hcell := ((P0.out.kep h HGM.out).cell 2 rfl); clear h; go_simp⟩) hS0 ?_
      try simp only [Act.put, List.setIfInBounds_toArray, List.set_cons_zero, List.set_cons_succ]
      refine wpAnyH_take (i := 7) (oi := { dst := some 20, op := .build 68 #[(0, .tmp 15), (1, .tmp 17), (2, .tmp 19)], type := 68, pos := "hop.go:20", after := #[{ on := 2, ground := .data }, { on := 4, ground := .data }, { on := 6, ground := .data }], guard := none }) (v := .agg #[.int .i64 r1, .int .i64 r2, .int .i64 r3]) rfl (by kernel_rfl) (by kernel_rfl) (by kernel_rfl) (fun _ _ _ h => h) (Or.inl ⟨by rfl, by intro w hSw; clear hSw; go_simp⟩) hS0 ?_
      try simp only [Act.put, List.setIfInBounds_toArray, List.set_cons_zero, List.set_cons_succ]
      refine wpAnyH_ready (rs := [8, 10]) (by kernel_rfl) (by simp) ?_
      refine AllReadyH.cons (o := { dst := some 21, op := Op.lookup 65 (.tmp 13) (.tmp 20) false, type := 3, pos := "hop.go:20", after := #[{ on := 0, ground := .data }, { on := 7, ground := .data }], guard := none }) rfl (fun K hK => ?_) (AllReadyH.cons (o := { dst := some 23, op := Op.mapEntry 65 (.tmp 13) (.tmp 20), type := 0, pos := "hop.go:20", after := #[{ on := 0, ground := .data }, { on := 7, ground := .data }, { on := 0, ground := .phase }, { on := 1, ground := .phase }, { on := 2, ground := .phase }, { on := 3, ground := .phase }, { on := 4, ground := .phase }, { on := 5, ground := .phase }, { on := 6, ground := .phase }, { on := 7, ground := .phase }, { on := 8, ground := .textOnly .mapOpAssignEntry }, { on := 9, ground := .textOnly .mapOpAssignEntry }], guard := none }) rfl (fun K hK => ?_) AllReadyH.nil)
      · go_simp
        refine hK.out _ _ (hS0) (fun hS1 => ?_)
        clear hK K
        try simp only [Act.put, List.setIfInBounds_toArray, List.set_cons_zero, List.set_cons_succ]
        refine wpAnyH_take (i := 9) (oi := { dst := some 22, op := .binOp .add 3 (.tmp 21) (.const (Value.int IntKind.i64 1)) 3, type := 3, pos := "hop.go:20", after := #[{ on := 8, ground := .data }], guard := none }) (v := .int .i64 (C + 1)) rfl (by kernel_rfl) (by kernel_rfl) (by kernel_rfl) (fun _ _ _ h => h) (Or.inl ⟨by rfl, by intro w hSw; clear hSw; go_simp⟩) hS1 ?_
        try simp only [Act.put, List.setIfInBounds_toArray, List.set_cons_zero, List.set_cons_succ]
        refine wpAnyH_ready (rs := [10]) (by kernel_rfl) (by simp) ?_
        refine AllReadyH.cons (o := { dst := some 23, op := Op.mapEntry 65 (.tmp 13) (.tmp 20), type := 0, pos := "hop.go:20", after := #[{ on := 0, ground := .data }, { on := 7, ground := .data }, { on := 0, ground := .phase }, { on := 1, ground := .phase }, { on := 2, ground := .phase }, { on := 3, ground := .phase }, { on := 4, ground := .phase }, { on := 5, ground := .phase }, { on := 6, ground := .phase }, { on := 7, ground := .phase }, { on := 8, ground := .textOnly .mapOpAssignEntry }, { on := 9, ground := .textOnly .mapOpAssignEntry }], guard := none }) rfl (fun K hK => ?_) AllReadyH.nil
        go_simp
        refine hK.out _ _ (hS0.trans (Ms.kep_grown HG1.out)) (fun hS2 => ?_)
        clear hK K
        try simp only [Act.put, List.setIfInBounds_toArray, List.set_cons_zero, List.set_cons_succ]
        refine wpAnyH_take (i := 11) (oi := { dst := some 24, op := .extract (.tmp 23) 1, type := 3, pos := "hop.go:20", after := #[{ on := 10, ground := .data }], guard := none }) (v := .int .i64 st) rfl (by kernel_rfl) (by kernel_rfl) (by kernel_rfl) (fun _ _ _ h => h) (Or.inl ⟨by rfl, by intro w hSw; clear hSw; go_simp⟩) hS2 ?_
        try simp only [Act.put, List.setIfInBounds_toArray, List.set_cons_zero, List.set_cons_succ]
        refine wpAnyH_ready (rs := [12]) (by kernel_rfl) (by simp) ?_
        refine AllReadyH.cons (o := { dst := none, op := Op.entryStore 65 (.tmp 13) (.tmp 24) (.tmp 22), type := 0, pos := "hop.go:20", after := #[{ on := 0, ground := .data }, { on := 11, ground := .data }, { on := 9, ground := .data }, { on := 10, ground := .chain }, { on := 0, ground := .phase }, { on := 1, ground := .phase }, { on := 2, ground := .phase }, { on := 3, ground := .phase }, { on := 4, ground := .phase }, { on := 5, ground := .phase }, { on := 6, ground := .phase }, { on := 7, ground := .phase }, { on := 8, ground := .phase }, { on := 9, ground := .phase }, { on := 10, ground := .phase }, { on := 11, ground := .phase }], guard := none }) rfl (fun K hK => ?_) AllReadyH.nil
        go_simp
        refine hK.out _ _ (hS0.trans (Ms.kep_grown HG2.out)) (fun hS3 => ?_)
        clear hK K
        try simp only [Act.put, List.setIfInBounds_toArray, List.set_cons_zero, List.set_cons_succ]
        refine wpAnyH_done (by kernel_rfl) ?_ _
        have HB2 := Lib.hid (show Bel w W2 from Kep.bel BV.out (hS0.trans (Ms.kep_grown HG2.out)) (fun i hi => by rw [hi, ← HMS.out]; exact Nat.le_refl _))
        have HMF := Lib.hid (show Mp W2 m (k + 1) (fun o s d => cnt (l.take (k + 1)) o s d) from by
          have h := HM2.out
          rw [show (fun o s d => cnt (l.take (k + 1)) o s d) = (fun o' s' d' => if o' = r1 ∧ s' = r2 ∧ d' = r3 then cnt (l.take k) r1 r2 r3 + 1 else cnt (l.take k) o' s' d') from funext fun o => funext fun s => funext fun d => ?_]
          · exact h
          · rw [HNX.out]
            by_cases he : o = r1 ∧ s = r2 ∧ d = r3
            · obtain ⟨rfl, rfl, rfl⟩ := he
              rw [if_pos (show goes o s d (o, s, d, r4) = true by simp [goes]), if_pos ⟨rfl, rfl, rfl⟩]
            · rw [if_neg (show ¬ goes o s d (r1, r2, r3, r4) = true by simp [goes]; intro h1 h2 h3; exact he ⟨h1.symm, h2.symm, h3.symm⟩), if_neg he, Nat.add_zero])
        clear hLK hLK1 hME hES hwr
        go_wp2_with fail
        go_roundw
        case rel => exact ⟨k + 1, by omega, by go_num, HMF, HB2⟩
        case measure => simp [intOf]; omega
      · go_simp
        refine hK.out _ _ (hS0.trans (Ms.kep_grown HG1.out)) (fun hS1 => ?_)
        clear hK K
        try simp only [Act.put, List.setIfInBounds_toArray, List.set_cons_zero, List.set_cons_succ]
        refine wpAnyH_take (i := 11) (oi := { dst := some 24, op := .extract (.tmp 23) 1, type := 3, pos := "hop.go:20", after := #[{ on := 10, ground := .data }], guard := none }) (v := .int .i64 st) rfl (by kernel_rfl) (by kernel_rfl) (by kernel_rfl) (fun _ _ _ h => h) (Or.inl ⟨by rfl, by intro w hSw; clear hSw; go_simp⟩) hS1 ?_
        try simp only [Act.put, List.setIfInBounds_toArray, List.set_cons_zero, List.set_cons_succ]
        refine wpAnyH_ready (rs := [8]) (by kernel_rfl) (by simp) ?_
        refine AllReadyH.cons (o := { dst := some 21, op := Op.lookup 65 (.tmp 13) (.tmp 20) false, type := 3, pos := "hop.go:20", after := #[{ on := 0, ground := .data }, { on := 7, ground := .data }], guard := none }) rfl (fun K hK => ?_) AllReadyH.nil
        go_simp
        refine hK.out _ _ (hS1) (fun hS2 => ?_)
        clear hK K
        try simp only [Act.put, List.setIfInBounds_toArray, List.set_cons_zero, List.set_cons_succ]
        refine wpAnyH_take (i := 9) (oi := { dst := some 22, op := .binOp .add 3 (.tmp 21) (.const (Value.int IntKind.i64 1)) 3, type := 3, pos := "hop.go:20", after := #[{ on := 8, ground := .data }], guard := none }) (v := .int .i64 (C + 1)) rfl (by kernel_rfl) (by kernel_rfl) (by kernel_rfl) (fun _ _ _ h => h) (Or.inl ⟨by rfl, by intro w hSw; clear hSw; go_simp⟩) hS2 ?_
        try simp only [Act.put, List.setIfInBounds_toArray, List.set_cons_zero, List.set_cons_succ]
        refine wpAnyH_ready (rs := [12]) (by kernel_rfl) (by simp) ?_
        refine AllReadyH.cons (o := { dst := none, op := Op.entryStore 65 (.tmp 13) (.tmp 24) (.tmp 22), type := 0, pos := "hop.go:20", after := #[{ on := 0, ground := .data }, { on := 11, ground := .data }, { on := 9, ground := .data }, { on := 10, ground := .chain }, { on := 0, ground := .phase }, { on := 1, ground := .phase }, { on := 2, ground := .phase }, { on := 3, ground := .phase }, { on := 4, ground := .phase }, { on := 5, ground := .phase }, { on := 6, ground := .phase }, { on := 7, ground := .phase }, { on := 8, ground := .phase }, { on := 9, ground := .phase }, { on := 10, ground := .phase }, { on := 11, ground := .phase }], guard := none }) rfl (fun K hK => ?_) AllReadyH.nil
        go_simp
        refine hK.out _ _ (hS0.trans (Ms.kep_grown HG2.out)) (fun hS3 => ?_)
        clear hK K
        try simp only [Act.put, List.setIfInBounds_toArray, List.set_cons_zero, List.set_cons_succ]
        refine wpAnyH_done (by kernel_rfl) ?_ _
        have HB2 := Lib.hid (show Bel w W2 from Kep.bel BV.out (hS0.trans (Ms.kep_grown HG2.out)) (fun i hi => by rw [hi, ← HMS.out]; exact Nat.le_refl _))
        have HMF := Lib.hid (show Mp W2 m (k + 1) (fun o s d => cnt (l.take (k + 1)) o s d) from by
          have h := HM2.out
          rw [show (fun o s d => cnt (l.take (k + 1)) o s d) = (fun o' s' d' => if o' = r1 ∧ s' = r2 ∧ d' = r3 then cnt (l.take k) r1 r2 r3 + 1 else cnt (l.take k) o' s' d') from funext fun o => funext fun s => funext fun d => ?_]
          · exact h
          · rw [HNX.out]
            by_cases he : o = r1 ∧ s = r2 ∧ d = r3
            · obtain ⟨rfl, rfl, rfl⟩ := he
              rw [if_pos (show goes o s d (o, s, d, r4) = true by simp [goes]), if_pos ⟨rfl, rfl, rfl⟩]
            · rw [if_neg (show ¬ goes o s d (r1, r2, r3, r4) = true by simp [goes]; intro h1 h2 h3; exact he ⟨h1.symm, h2.symm, h3.symm⟩), if_neg he, Nat.add_zero])
        clear hLK hLK1 hME hES hwr
        go_wp2_with fail
        go_roundw
        case rel => exact ⟨k + 1, by omega, by go_num, HMF, HB2⟩
        case measure => simp [intOf]; omega
    · obtain rfl : k = n := by omega
      have HL := Lib.hid (show l.take k = l from List.take_of_length_le (by rw [HR.out.len]; exact Nat.le_refl _))
      rw [HL.out] at hmp
      go_wp2_with fail
      go_ret
      exact ⟨m, rfl, hmp.out, hh.out⟩
set_option maxHeartbeats 1000000 in
theorem count (A : Option Addr) (n c : Nat) (l : List R4) (o s d : Int) (w : World) (hi : Rw.RS hR w A n c l) (hn : n ≤ 1000000000) (h3 : ∀ r ∈ l, W3 r) (ho : I64 o) (hs : I64 s) (hd : I64 d) :
    Calls Try.prog 15 #[.slice A n c, .int .i64 o, .int .i64 s, .int .i64 d] w fun e w' => e = .returned (.int .i64 (cnt l o s d)) ∧ Bel w w' := by
  have CN := Lib.hid (counts A n c l w hi hn h3)
  have HW := Lib.hid (⟨ho, hs, hd⟩ : I64 o ∧ I64 s ∧ I64 d)
  clear hi h3 ho hs hd
  go_enter Try.func15, Try.ntmps15
  go_wp2_with fail
  refine CN.out.mono ?_
  rintro e w1 ⟨m, rfl, hm, kb⟩
  have KB := Lib.hid kb
  have hLK := mp_look hm HW.out.1 HW.out.2.1 HW.out.2.2
  unfold wayV at hLK
  clear kb hm CN
  go_wp2_with fail
  go_ret
  exact ⟨rfl, KB.out⟩
end Hp
end Go.Proofs.Ytahhnfnonekbmaa
end
