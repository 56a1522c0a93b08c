/-
  What Into of hop and of the reference, and may, Check and Count of the reference answer of any list of hops. Conditions: at most a billion hops.
-/
import Derived.Test.YtahhnfnonekbmaaHp3
namespace Go.Proofs.Ytahhnfnonekbmaa
open Go.RowKit Go.Shelf
set_option linter.unusedVariables false
set_option linter.unusedSimpArgs false
namespace Hp
open Kk Pm

theorem bel_drewN (w : World) (n : Nat) : Bel w (w.drewN n) := ⟨rfl, rfl, rfl, Nat.le_refl _, fun _ _ => rfl⟩
theorem into_next {l : List R4} {k : Nat} {r : R4} (hr : l[k]? = some r) (q : R4 → Bool) : (l.take (k + 1)).filter q = (l.take k).filter q ++ (if q r = true then [r] else []) := by
  rw [List.take_add_one, hr, List.filter_append]
  congr 1
  show List.filter q [r] = _
  by_cases hq : q r = true <;> simp [hq]
theorem into_def (o d r1 r2 r3 r4 : Int) : into o d (r1, r2, r3, r4) = ((r1 == o) && (r3 == d)) := by
  by_cases h1 : r1 = o <;> by_cases h2 : r3 = d <;> simp [into, h1, h2]
theorem goes_def (o s d r1 r2 r3 r4 : Int) : goes o s d (r1, r2, r3, r4) = ((r1 == o) && (r2 == s) && (r3 == d)) := by
  by_cases h1 : r1 = o <;> by_cases h2 : r2 = s <;> by_cases h3 : r3 = d <;> simp [goes, h1, h2, h3]
set_option maxRecDepth 10000 in
set_option maxHeartbeats 2000000 in
theorem into_ (A : Option Addr) (n c : Nat) (l : List R4) (o d : Int) (w : World) (hi : Rw.RS hR w A n c l) (hn : n ≤ 1000000000) :
    Calls Try.prog 22 #[.slice A n c, .int .i64 o, .int .i64 d] w fun e w' => ∃ v, e = .returned v ∧ OwnH w' w.heap.size v (l.filter (into o d)) ∧ Bel w w' := by
  have HR := Lib.hid hi
  clear hi
  go_enter Try.func22, Try.ntmps22
  go_wp2_with fail
  go_loopw [6, 11] (fun s6 s11 wr => ∃ k : Nat, k ≤ n ∧ s11 = .int .i64 k ∧ Hid (OwnH wr w.heap.size s6 ((l.take k).filter (into o d))) ∧ Hid (Bel w wr)) (fun _ s11 _ => n - (intOf s11).toNat)
  case atStart => exact ⟨0, Nat.zero_le _, rfl, Lib.hid (Rw.OwnR.nil_ _ _ _ _), Lib.hid (Bel.refl _)⟩
  case round =>
    obtain ⟨k, hk, rfl, ho, hh⟩ := hrel
    by_cases hlt : k < n
    · obtain ⟨⟨r1, r2, r3, r4⟩, hr⟩ := HR.out.get hlt
      obtain ⟨b, q, rfl, hb, hrow⟩ := (HR.out.bel hh.out).at hlt hr
      have HNX := Lib.hid (into_next hr (into o d))
      rw [into_def] at HNX
      have HLE := Lib.hid (show ((l.take k).filter (into o d)).length ≤ k from Nat.le_trans (List.length_filter_le _ _) (by rw [List.length_take]; omega))
      have hlt3 : (k : Int) < n := by omega
      have hlt0 : (0 : Int) ≤ k := by omega
      obtain ⟨c0, c1, c2, c3⟩ := rng4 (show wr.rangeAt b (q + k * 4) [.int .i64 r1, .int .i64 r2, .int .i64 r3, .int .i64 r4] from hrow)
      clear hr hrow
      go_upto_region 4 with fail
      have P0 := Lib.hid (Blk.new wr #[.int .i64 r1, .int .i64 r2, .int .i64 r3, .int .i64 r4] 24)
      obtain ⟨V, hV⟩ : ∃ V, wr.alloc (.cells #[.int .i64 r1, .int .i64 r2, .int .i64 r3, .int .i64 r4] 24) = V := ⟨_, rfl⟩
      have BV := Lib.hid (show Bel w V by rw [← hV]; exact hh.out.alloc _)
      have HO := Lib.hid (show OwnH V w.heap.size _ _ by rw [← hV]; exact ho.out.bel ((Bel.refl _).alloc _))
      rw [hV] at P0 ⊢
      obtain ⟨g, hg⟩ : ∃ g, wr.heap.size = g := ⟨_, rfl⟩
      rw [hg] at P0 ⊢
      clear hV hg c0 c1 c2 c3 ho
      have c0 := P0.out.cell 0 rfl
      have c1 := P0.out.cell 1 rfl
      have c2 := P0.out.cell 2 rfl
      have c3 := P0.out.cell 3 rfl
      have HX := Lib.hid (Rw.rs_one hR (r := (r1, r2, r3, r4)) (Blk.new V #[.int .i64 r1, .int .i64 r2, .int .i64 r3, .int .i64 r4] 24))
      have HOA := Lib.hid (HO.out.bel ((Bel.refl V).alloc (.cells #[.int .i64 r1, .int .i64 r2, .int .i64 r3, .int .i64 r4] 24)))
      have HSZ := Lib.hid (Below.size BV.out)
      have NO : ∀ x : Bool, ((r1 == o) && (r3 == d)) = x → Hid ((l.take (k + 1)).filter (into o d) = (l.take k).filter (into o d) ++ (if x = true then [(r1, r2, r3, r4)] else [])) := fun x hx => by rw [hx] at HNX; exact HNX
      clear HNX
      cases h1 : (r1 == o)
      · rw [h1] at NO
        have HN := Lib.hid (NO false rfl).out
        clear NO HX HOA
        go_wp2_with fail
        go_roundw
        case rel => exact ⟨k + 1, by omega, by go_num, Lib.hid (by rw [HN.out]; simpa using HO.out), BV⟩
        case measure => simp [intOf]; omega
      · rw [h1] at NO
        cases h2 : (r3 == d)
        · rw [h2] at NO
          have HN := Lib.hid (NO false rfl).out
          clear NO HX HOA
          go_wp2_with fail
          go_roundw
          case rel => exact ⟨k + 1, by omega, by go_num, Lib.hid (by rw [HN.out]; simpa using HO.out), BV⟩
          case measure => simp [intOf]; omega
        · rw [h2] at NO
          have HN := Lib.hid (NO true rfl).out
          clear NO
          go_wp2_with (at_builtin; refine Rw.append_R hR rfl _ _ _ 24 rfl underH zero_h rfl (by decide) w.heap.size _ ((l.take k).filter (into o d)) rfl HOA.out (some ⟨V.heap.size, 0, none⟩) 1 1 [(r1, r2, r3, r4)] rfl HX.out (by have := HLE.out; omega) (by have := HSZ.out; simp; omega) ?_; intro v' w1 hown' hgrow)
          have HO2 := Lib.hid hown'
          have HB2 := Lib.hid (show Bel w w1 from Kk.Bel.grown (BV.out.alloc _) hgrow (fun k hk => (HOA.out.lt k hk).1))
          clear hown' hgrow
          go_wp2_with fail
          go_roundw
          case rel => exact ⟨k + 1, by omega, by go_num, Lib.hid (by rw [HN.out]; exact HO2.out), HB2⟩
          case measure => simp [intOf]; omega
    · obtain rfl : k = n := by omega
      have HL := Lib.hid (show l.take k = l from List.take_of_length_le (by rw [HR.out.len]; exact Nat.le_refl _))
      rw [HL.out] at ho
      go_wp2_with fail
      go_ret
      exact ⟨_, rfl, ho.out, hh.out⟩
set_option maxRecDepth 10000 in
set_option maxHeartbeats 2000000 in
theorem intoR (A : Option Addr) (n c : Nat) (l : List R4) (o d : Int) (w : World) (hi : Rw.RS hR w A n c l) (hn : n ≤ 1000000000) :
    Calls Try.prog 23 #[.slice A n c, .int .i64 o, .int .i64 d] w fun e w' => ∃ v, e = .returned v ∧ OwnH w' w.heap.size v (l.filter (into o d)) ∧ Bel w w' := by
  have HR := Lib.hid hi
  clear hi
  go_enter Try.func23, Try.ntmps23
  go_wp2_with fail
  go_loopw [7, 8] (fun s7 s8 wr => ∃ k : Nat, k ≤ n ∧ s8 = .int .i64 k ∧ Hid (OwnH wr w.heap.size s7 ((l.take k).filter (into o d))) ∧ Hid (Bel w wr)) (fun _ s8 _ => n - (intOf s8).toNat)
  case atStart => exact ⟨0, Nat.zero_le _, rfl, Lib.hid (Rw.OwnR.nil_ _ _ _ _), Lib.hid (Bel.refl _)⟩
  case round =>
    obtain ⟨k, hk, rfl, ho, hh⟩ := hrel
    by_cases hlt : k < n
    · obtain ⟨⟨r1, r2, r3, r4⟩, hr⟩ := HR.out.get hlt
      obtain ⟨b, q, rfl, hb, hrow⟩ := (HR.out.bel hh.out).at hlt hr
      have HNX := Lib.hid (into_next hr (into o d))
      rw [into_def] at HNX
      have HLE := Lib.hid (show ((l.take k).filter (into o d)).length ≤ k from Nat.le_trans (List.length_filter_le _ _) (by rw [List.length_take]; omega))
      have hlt3 : (k : Int) < n := by omega
      have hlt0 : (0 : Int) ≤ k := by omega
      obtain ⟨c0, c1, c2, c3⟩ := rng4 (show wr.rangeAt b (q + k * 4) [.int .i64 r1, .int .i64 r2, .int .i64 r3, .int .i64 r4] from hrow)
      clear hr hrow
      have BV := Lib.hid (show Bel w wr from hh.out)
      have HO := Lib.hid (show OwnH wr w.heap.size _ _ from ho.out)
      clear ho
      have HX := Lib.hid (Rw.rs_one hR (r := (r1, r2, r3, r4)) (Blk.new wr #[.int .i64 r1, .int .i64 r2, .int .i64 r3, .int .i64 r4] 24))
      have HOA := Lib.hid (HO.out.bel ((Bel.refl wr).alloc (.cells #[.int .i64 r1, .int .i64 r2, .int .i64 r3, .int .i64 r4] 24)))
      have HSZ := Lib.hid (Below.size BV.out)
      have NO : ∀ x : Bool, ((r1 == o) && (r3 == d)) = x → Hid ((l.take (k + 1)).filter (into o d) = (l.take k).filter (into o d) ++ (if x = true then [(r1, r2, r3, r4)] else [])) := fun x hx => by rw [hx] at HNX; exact HNX
      clear HNX
      cases h1 : (r1 == o)
      · rw [h1] at NO
        have HN := Lib.hid (NO false rfl).out
        clear NO HX HOA
        go_wp2_with fail
        go_roundw
        case rel => exact ⟨k + 1, by omega, by go_num, Lib.hid (by rw [HN.out]; simpa using HO.out), BV⟩
        case measure => simp [intOf]; omega
      · rw [h1] at NO
        cases h2 : (r3 == d)
        · rw [h2] at NO
          have HN := Lib.hid (NO false rfl).out
          clear NO HX HOA
          go_wp2_with fail
          go_roundw
          case rel => exact ⟨k + 1, by omega, by go_num, Lib.hid (by rw [HN.out]; simpa using HO.out), BV⟩
          case measure => simp [intOf]; omega
        · rw [h2] at NO
          have HN := Lib.hid (NO true rfl).out
          clear NO
          go_wp2_with (at_builtin; refine Rw.append_R hR rfl _ _ _ 24 rfl underH zero_h rfl (by decide) w.heap.size _ ((l.take k).filter (into o d)) rfl HOA.out (some ⟨wr.heap.size, 0, none⟩) 1 1 [(r1, r2, r3, r4)] rfl HX.out (by have := HLE.out; omega) (by have := HSZ.out; simp; omega) ?_; intro v' w1 hown' hgrow)
          have HO2 := Lib.hid hown'
          have HB2 := Lib.hid (show Bel w w1 from Kk.Bel.grown (BV.out.alloc _) hgrow (fun k hk => (HOA.out.lt k hk).1))
          clear hown' hgrow
          go_wp2_with fail
          go_roundw
          case rel => exact ⟨k + 1, by omega, by go_num, Lib.hid (by rw [HN.out]; exact HO2.out), HB2⟩
          case measure => simp [intOf]; omega
    · obtain rfl : k = n := by omega
      have HL := Lib.hid (show l.take k = l from List.take_of_length_le (by rw [HR.out.len]; exact Nat.le_refl _))
      rw [HL.out] at ho
      go_wp2_with fail
      go_ret
      exact ⟨_, rfl, ho.out, hh.out⟩

theorem may_def (a b c d : Int) : may (a, b, c, d) = (decide (0 ≤ b) && decide (b < 32) && decide (0 ≤ c) && decide (c < 32) && !(b == c) && decide (0 ≤ a) && decide (a < 64) && decide (1 ≤ d) && decide (d ≤ 4294967296)) := by
  rw [Bool.eq_iff_iff, may_iff]
  simp
  constructor
  · rintro ⟨h1, h2, h3, h4, h5, h6, h7, h8, h9⟩
    exact ⟨⟨⟨⟨⟨⟨⟨⟨h3, h4⟩, h5⟩, h6⟩, h7⟩, h1⟩, h2⟩, h8⟩, h9⟩
  · rintro ⟨⟨⟨⟨⟨⟨⟨⟨h3, h4⟩, h5⟩, h6⟩, h7⟩, h1⟩, h2⟩, h8⟩, h9⟩
    exact ⟨h1, h2, h3, h4, h5, h6, h7, h8, h9⟩
set_option maxRecDepth 10000 in
set_option maxHeartbeats 4000000 in
theorem mayR (a b c d : Int) (w : World) : Calls Try.prog 42 #[.agg #[.int .i64 a, .int .i64 b, .int .i64 c, .int .i64 d]] w fun e w' => e = .returned (.bool (may (a, b, c, d))) ∧ Bel w w' := by
  have P0 := Lib.hid (Blk.new w #[.int .i64 a, .int .i64 b, .int .i64 c, .int .i64 d] 24)
  obtain ⟨W, hW⟩ : ∃ W, w.alloc (.cells #[.int .i64 a, .int .i64 b, .int .i64 c, .int .i64 d] 24) = W := ⟨_, rfl⟩
  have BW := Lib.hid (show Bel w W by rw [← hW]; exact (Bel.refl w).alloc _)
  go_enter Try.func42, Try.ntmps42
  go_upto_region 1 with fail
  rw [hW] at P0
  try rw [hW]
  obtain ⟨g, hg⟩ : ∃ g, w.heap.size = g := ⟨_, rfl⟩
  rw [hg] at P0 ⊢
  clear hW hg
  have c0 := P0.out.cell 0 rfl
  have c1 := P0.out.cell 1 rfl
  have c2 := P0.out.cell 2 rfl
  have c3 := P0.out.cell 3 rfl
  by_cases h0 : 0 ≤ b
  · by_cases h1 : b < 32
    · by_cases h2 : 0 ≤ c
      · by_cases h3 : c < 32
        · by_cases h4 : b = c
          · have e4 : (b != c) = false := by simp [h4]
            have EM := Lib.hid (show may (a, b, c, d) = false from decide_eq_false (by omega))
            go_wp2_with fail
            go_ret
            exact ⟨by rw [EM.out]; rfl, BW.out⟩
          · have e4 : (b != c) = true := by simp [h4]
            by_cases h5 : 0 ≤ a
            · by_cases h6 : a < 64
              · by_cases h7 : 1 ≤ d
                · by_cases h8 : d ≤ 4294967296
                  · have EM := Lib.hid (show may (a, b, c, d) = true from decide_eq_true (by omega))
                    go_wp2_with fail
                    go_ret
                    exact ⟨by rw [EM.out]; rfl, BW.out⟩
                  · have EM := Lib.hid (show may (a, b, c, d) = false from decide_eq_false (by omega))
                    go_wp2_with fail
                    go_ret
                    exact ⟨by rw [EM.out]; rfl, BW.out⟩
                · have EM := Lib.hid (show may (a, b, c, d) = false from decide_eq_false (by omega))
                  go_wp2_with fail
                  go_ret
                  exact ⟨by rw [EM.out]; rfl, BW.out⟩
              · have EM := Lib.hid (show may (a, b, c, d) = false from decide_eq_false (by omega))
                go_wp2_with fail
                go_ret
                exact ⟨by rw [EM.out]; rfl, BW.out⟩
            · have EM := Lib.hid (show may (a, b, c, d) = false from decide_eq_false (by omega))
              go_wp2_with fail
              go_ret
              exact ⟨by rw [EM.out]; rfl, BW.out⟩
        · have EM := Lib.hid (show may (a, b, c, d) = false from decide_eq_false (by omega))
          go_wp2_with fail
          go_ret
          exact ⟨by rw [EM.out]; rfl, BW.out⟩
      · have EM := Lib.hid (show may (a, b, c, d) = false from decide_eq_false (by omega))
        go_wp2_with fail
        go_ret
        exact ⟨by rw [EM.out]; rfl, BW.out⟩
    · have EM := Lib.hid (show may (a, b, c, d) = false from decide_eq_false (by omega))
      go_wp2_with fail
      go_ret
      exact ⟨by rw [EM.out]; rfl, BW.out⟩
  · have EM := Lib.hid (show may (a, b, c, d) = false from decide_eq_false (by omega))
    go_wp2_with fail
    go_ret
    exact ⟨by rw [EM.out]; rfl, BW.out⟩
set_option maxRecDepth 100000 in
set_option maxHeartbeats 4000000 in
theorem checkR (A : Option Addr) (n c : Nat) (l : List R4) (w : World) (hi : Rw.RS hR w A n c l) (hn : n ≤ 1000000000) :
    Calls Try.prog 12 #[.slice A n c] w fun e w' => e = .returned (.tuple #[.int .i64 (chk l).1, .int .i64 (chk l).2]) ∧ Bel w w' := by
  have HR := Lib.hid hi
  have HL := Lib.hid hi.len
  clear hi
  by_cases hlong : 4096 < n
  · have e : chk l = (4, 4096) := if_pos (by rw [HL.out]; exact hlong)
    rw [e]
    clear e
    have hlong3 : (4096 : Int) < n := by omega
    go_enter Try.func12, Try.ntmps12
    go_wp2_with fail
    go_ret2
    exact ⟨rfl, Bel.refl _⟩
  have e : chk l = ck 0 l 0 := if_neg (by rw [HL.out]; exact hlong)
  rw [e]
  clear e
  obtain ⟨R, hRR⟩ : ∃ R, ck 0 l 0 = R := ⟨_, rfl⟩
  rw [hRR]
  have HRR := Lib.hid hRR
  have hlong3 : ¬ (4096 : Int) < n := by omega
  clear hRR
  go_enter Try.func12, Try.ntmps12
  go_wp2_with fail
  go_loopw [4] (fun s4 wr => ∃ k : Nat, k ≤ n ∧ s4 = .int .i64 k ∧ Hid ((∀ (j : Nat) (x : R4), j < k → l[j]? = some x → hE (bef 0 l j) x = 0) ∧ Bel w wr)) (fun s4 _ => n - (intOf s4).toNat)
  case atStart => exact ⟨0, Nat.zero_le _, rfl, Lib.hid ⟨fun j x hj => absurd hj (by omega), Bel.refl _⟩⟩
  case round =>
    obtain ⟨k, hk, rfl, hh⟩ := hrel
    by_cases hlt : k < n
    · obtain ⟨⟨r1, r2, r3, r4⟩, hr⟩ := HR.out.get hlt
      obtain ⟨b, o, rfl, hb, hrow⟩ := (HR.out.bel hh.out.2).at hlt hr
      have HRR1 := Lib.hid hr
      have AT := Lib.hid (show hE (bef 0 l k) (r1, r2, r3, r4) ≠ 0 → R = (hE (bef 0 l k) (r1, r2, r3, r4), k) from fun h0 => by
        have := ck_at l 0 0 k _ hh.out.1 hr h0
        rw [HRR.out, Nat.zero_add] at this
        exact this)
      have hlt3 : (k : Int) < n := by omega
      have hlt0 : (0 : Int) ≤ k := by omega
      obtain ⟨c0, c1, c2, c3⟩ := rng4 (show wr.rangeAt b (o + k * 4) [.int .i64 r1, .int .i64 r2, .int .i64 r3, .int .i64 r4] from hrow)
      have MY := Lib.hid (mayR r1 r2 r3 r4 wr)
      obtain ⟨y, hy⟩ : ∃ y, may (r1, r2, r3, r4) = y := ⟨_, rfl⟩
      rw [hy] at MY
      have HY := Lib.hid hy
      clear hr hrow hy
      go_wp2_with fail
      refine MY.out.mono ?_
      rintro e w1 ⟨rfl, kb⟩
      have K1 := Lib.hid (hh.out.2.trans kb)
      clear kb MY c0 c1 c2 c3
      cases y
      · obtain rfl : R = (3, k) := by have h0 := AT.out (by rw [hE_3 HY.out]; decide); rwa [hE_3 HY.out] at h0
        go_wp2_with fail
        go_ret2
        exact ⟨rfl, K1.out⟩
      · obtain ⟨b', o', e', hb', hrow'⟩ := (HR.out.bel K1.out).at hlt HRR1.out
        injection e' with e'
        injection e' with e1 e2
        subst e1 e2
        obtain ⟨c0, c1, c2, c3⟩ := rng4 (show w1.rangeAt b (o + k * 4) [.int .i64 r1, .int .i64 r2, .int .i64 r3, .int .i64 r4] from hrow')
        clear hrow'
        have NXT : Hid (hE (bef 0 l k) (r1, r2, r3, r4) = 0) → ∀ V, Bel w1 V → Hid ((∀ (j : Nat) (x : R4), j < k + 1 → l[j]? = some x → hE (bef 0 l j) x = 0) ∧ Bel w V) := fun hz V hV => Lib.hid ⟨fun j x hj hx => by
          rcases Nat.lt_or_ge j k with h' | h'
          · exact hh.out.1 j x h' hx
          · obtain rfl : j = k := by omega
            have := HRR1.out.symm.trans hx
            injection this with this
            rw [← this]; exact hz.out, K1.out.trans hV⟩
        have NXT := Lib.hid NXT
        by_cases h0 : k = 0
        · subst h0
          have HZ := Lib.hid (hE_mk HY.out (show bef 0 l 0 ≤ r4 by have := (may_cr HY.out).1; show (0 : Int) ≤ r4; have h2 : cr (r1, r2, r3, r4) = r4 := rfl; omega))
          go_upto_region 8 with fail
          go_quiet (fail)
          go_wp2_with fail
          go_roundw
          case rel => exact ⟨1, by omega, rfl, NXT.out HZ _ (by first | exact Bel.refl _ | exact bel_drewN _ _)⟩
          case measure => simp [intOf]; omega
        · obtain ⟨⟨p1, p2, p3, p4⟩, hp⟩ := HR.out.get (show k - 1 < n by omega)
          obtain ⟨b', o', e', hb', hrow'⟩ := (HR.out.bel K1.out).at (show k - 1 < n by omega) hp
          injection e' with e'
          injection e' with e1 e2
          subst e1 e2
          obtain ⟨d0, d1, d2, d3⟩ := rng4 (show w1.rangeAt b (o + (k - 1) * 4) [.int .i64 p1, .int .i64 p2, .int .i64 p3, .int .i64 p4] from hrow')
          obtain ⟨j, hj⟩ : ∃ j, k = j + 1 := ⟨k - 1, by omega⟩
          subst hj
          rw [Nat.add_sub_cancel] at d3 hp
          have HB := Lib.hid (show bef 0 l (j + 1) = p4 from bef_succ hp)
          have hs : IntKind.i64.wrap (((j + 1 : Nat) : Int) - 1) = (j : Int) := by rw [IntWalk.i64_in _ (by omega)]; omega
          clear hrow' hp h0 d0 d1 d2 c0 c1 c2
          by_cases h6 : r4 < p4
          · have E9 := hE_9 HY.out (show cr (r1, r2, r3, r4) < bef 0 l (j + 1) by rw [HB.out]; exact h6)
            obtain rfl : R = (9, j + 1) := by have h0 := AT.out (by rw [E9]; decide); rwa [E9] at h0
            clear E9
            go_upto_region 8 with fail
            go_quiet (fail)
            go_wp2_with fail
            go_ret2
            exact ⟨rfl, K1.out.trans (by first | exact Bel.refl _ | exact bel_drewN _ _)⟩
          · have HZ := Lib.hid (hE_mk HY.out (show bef 0 l (j + 1) ≤ cr (r1, r2, r3, r4) by rw [HB.out]; show p4 ≤ r4; omega))
            go_upto_region 8 with fail
            go_quiet (fail)
            go_wp2_with fail
            go_roundw
            case rel => exact ⟨j + 2, by omega, by go_num, NXT.out HZ _ (by first | exact Bel.refl _ | exact bel_drewN _ _)⟩
            case measure => simp [intOf]; omega
    · obtain rfl : k = n := by omega
      have h0 : R = (0, 0) := HRR.out.symm.trans (ck_end l 0 0 (fun j x hx => hh.out.1 j x (by have := (List.getElem?_eq_some_iff.1 hx).1; have := HL.out; omega) hx))
      subst h0
      go_wp2_with fail
      go_ret2
      exact ⟨rfl, hh.out.2⟩
set_option maxRecDepth 100000 in
set_option maxHeartbeats 4000000 in
theorem countR (A : Option Addr) (n c : Nat) (l : List R4) (o s d : Int) (w : World) (hi : Rw.RS hR w A n c l) (hn : n ≤ 1000000000) :
    Calls Try.prog 16 #[.slice A n c, .int .i64 o, .int .i64 s, .int .i64 d] w fun e w' => e = .returned (.int .i64 (cnt l o s d)) ∧ Bel w w' := by
  have HR := Lib.hid hi
  clear hi
  go_enter Try.func16, Try.ntmps16
  go_wp2_with fail
  go_loopw [9, 10] (fun s9 s10 wr => ∃ k m : Nat, k ≤ n ∧ s10 = .int .i64 k ∧ m ≤ k ∧ s9 = .int .i64 m ∧ Hid (cnt (l.take k) o s d = m ∧ Bel w wr)) (fun _ s10 _ => n - (intOf s10).toNat)
  case atStart => exact ⟨0, 0, Nat.zero_le _, rfl, Nat.le_refl _, rfl, Lib.hid ⟨rfl, Bel.refl _⟩⟩
  case round =>
    obtain ⟨k, m, hk, rfl, hm, rfl, hh⟩ := hrel
    by_cases hlt : k < n
    · obtain ⟨⟨r1, r2, r3, r4⟩, hr⟩ := HR.out.get hlt
      obtain ⟨b, q, rfl, hb, hrow⟩ := (HR.out.bel hh.out.2).at hlt hr
      have HNX := Lib.hid (show cnt (l.take (k + 1)) o s d = m + (if goes o s d (r1, r2, r3, r4) = true then 1 else 0) by rw [cnt_take hr, hh.out.1])
      rw [goes_def] at HNX
      have HBE := Lib.hid hh.out.2
      have hlt3 : (k : Int) < n := by omega
      have hlt0 : (0 : Int) ≤ k := by omega
      obtain ⟨c0, c1, c2, c3⟩ := rng4 (show wr.rangeAt b (q + k * 4) [.int .i64 r1, .int .i64 r2, .int .i64 r3, .int .i64 r4] from hrow)
      clear hr hrow
      have NO : ∀ x : Bool, ((r1 == o) && (r2 == s) && (r3 == d)) = x → Hid (cnt (l.take (k + 1)) o s d = m + (if x = true then 1 else 0)) := fun x hx => by rw [hx] at HNX; exact HNX
      clear HNX
      cases h1 : (r1 == o)
      · rw [h1] at NO
        have HN := Lib.hid (NO false rfl).out
        clear NO
        go_wp2_with fail
        go_roundw
        case rel => exact ⟨k + 1, m, by omega, by go_num, by omega, rfl, Lib.hid ⟨HN.out, HBE.out⟩⟩
        case measure => simp [intOf]; omega
      · rw [h1] at NO
        cases h2 : (r2 == s)
        · rw [h2] at NO
          have HN := Lib.hid (NO false rfl).out
          clear NO
          go_wp2_with fail
          go_roundw
          case rel => exact ⟨k + 1, m, by omega, by go_num, by omega, rfl, Lib.hid ⟨HN.out, HBE.out⟩⟩
          case measure => simp [intOf]; omega
        · rw [h2] at NO
          cases h3 : (r3 == d)
          · rw [h3] at NO
            have HN := Lib.hid (NO false rfl).out
            clear NO
            go_wp2_with fail
            go_roundw
            case rel => exact ⟨k + 1, m, by omega, by go_num, by omega, rfl, Lib.hid ⟨HN.out, HBE.out⟩⟩
            case measure => simp [intOf]; omega
          · rw [h3] at NO
            have HN := Lib.hid (NO true rfl).out
            clear NO
            go_wp2_with fail
            go_roundw
            case rel => exact ⟨k + 1, m + 1, by omega, by go_num, by omega, by go_num, Lib.hid ⟨HN.out, HBE.out⟩⟩
            case measure => simp [intOf]; omega
    · obtain rfl : k = n := by omega
      have HL := Lib.hid (show l.take k = l from List.take_of_length_le (by rw [HR.out.len]; exact Nat.le_refl _))
      have HM := Lib.hid hh.out.1
      have HBE := Lib.hid hh.out.2
      go_wp2_with fail
      go_ret
      exact ⟨by rw [← HM.out, HL.out]; rfl, HBE.out⟩
end Hp
end Go.Proofs.Ytahhnfnonekbmaa
