/-
  What roster.Check answers of any list of validators. Conditions: at most a billion; operators are ints.
-/
import Derived.Test.YtpfdakkameifkaaRo4
namespace Go.Proofs.Ytpfdakkameifkaa
open Go.RowKit Go.Shelf
set_option linter.unusedVariables false
set_option linter.unusedSimpArgs false
namespace Ro
open Kk Pm Go.Maps Go.WideElems Go.WideMaps

theorem vE_3 {h : Bool} {o m s u : Int} {a p : Bool} (h1 : rngB o s u = false) : vE h (o, m, s, u, a, p) = 3 := if_pos h1
theorem vE_2 {h : Bool} {o m s u : Int} {a p : Bool} (h1 : rngB o s u = true) (h2 : m = 0) : vE h (o, m, s, u, a, p) = 2 := by
  show (if rngB o s u = false then (3 : Int) else if m = 0 then 2 else if h = true then 8 else if agrB s u a p = false then 11 else 0) = _
  rw [if_neg (by rw [h1]; decide), if_pos h2]
theorem vE_8 {h : Bool} {o m s u : Int} {a p : Bool} (h1 : rngB o s u = true) (h2 : m ≠ 0) (h3 : h = true) : vE h (o, m, s, u, a, p) = 8 := by
  show (if rngB o s u = false then (3 : Int) else if m = 0 then 2 else if h = true then 8 else if agrB s u a p = false then 11 else 0) = _
  rw [if_neg (by rw [h1]; decide), if_neg h2, if_pos h3]
theorem vE_11 {h : Bool} {o m s u : Int} {a p : Bool} (h1 : rngB o s u = true) (h2 : m ≠ 0) (h3 : h = false) (h4 : agrB s u a p = false) : vE h (o, m, s, u, a, p) = 11 := by
  show (if rngB o s u = false then (3 : Int) else if m = 0 then 2 else if h = true then 8 else if agrB s u a p = false then 11 else 0) = _
  rw [if_neg (by rw [h1]; decide), if_neg h2, if_neg (by rw [h3]; decide), if_pos h4]
theorem vE_0 {h : Bool} {o m s u : Int} {a p : Bool} (h1 : rngB o s u = true) (h2 : m ≠ 0) (h3 : h = false) (h4 : agrB s u a p = true) : vE h (o, m, s, u, a, p) = 0 := by
  show (if rngB o s u = false then (3 : Int) else if m = 0 then 2 else if h = true then 8 else if agrB s u a p = false then 11 else 0) = _
  rw [if_neg (by rw [h1]; decide), if_neg h2, if_neg (by rw [h3]; decide), if_neg (by rw [h4]; decide)]
theorem rng_no1 {o s u : Int} (h : ¬ (0 ≤ o ∧ o < 64)) : rngB o s u = false := decide_eq_false (fun h' => h ⟨h'.1, h'.2.1⟩)
theorem rng_no2 {o s u : Int} (h : ¬ (1 ≤ s ∧ s ≤ 4)) : rngB o s u = false := decide_eq_false (fun h' => h ⟨h'.2.2.1, h'.2.2.2.1⟩)
theorem rng_no3 {o s u : Int} (h0 : u ≠ 0) (h : untB u = false) : rngB o s u = false := decide_eq_false (fun h' => by
  have := of_decide_eq_false h
  omega)
theorem rng_yes0 {o s : Int} (h : 0 ≤ o ∧ o < 64) (h2 : 1 ≤ s ∧ s ≤ 4) : rngB o s 0 = true := decide_eq_true ⟨h.1, h.2, h2.1, h2.2, by omega, by omega⟩
theorem rng_yes {o s u : Int} (h : 0 ≤ o ∧ o < 64) (h2 : 1 ≤ s ∧ s ≤ 4) (h3 : untB u = true) : rngB o s u = true := by
  have := of_decide_eq_true h3
  exact decide_eq_true ⟨h.1, h.2, h2.1, h2.2, by omega, by omega⟩

set_option maxRecDepth 100000 in
set_option maxHeartbeats 8000000 in
theorem check (A : Option Addr) (n c : Nat) (l : List V6) (w : World) (hi : Rw.RS vR w A n c l) (hn : n ≤ 1000000000) (hO : ∀ r ∈ l, I64 (op r)) :
    Calls Try.prog 15 #[.slice A n c] w fun e w' => e = .returned (.tuple #[.int .i64 (chk l).1, .int .i64 (chk l).2]) ∧ Bel w w' := by
  have HR := Lib.hid hi
  have HL := Lib.hid hi.len
  have HO := Lib.hid hO
  have OPS := Lib.hid (operators A n c l w hi hn hO)
  clear hi hO
  by_cases hlong : 32 < n
  · have e : chk l = (4, 32) := chk_long (by rw [HL.out]; exact hlong)
    rw [e]
    clear e
    have hlong3 : (32 : Int) < n := by omega
    clear OPS
    go_enter Try.func15, Try.ntmps15
    go_wp2_with fail
    (try rw [Exit.noGoto_ret])
    go_ret2
    exact ⟨rfl, Bel.refl _⟩
  have HCA := Lib.hid (fun k (h1 : ∀ i, i < k → eA l i = 0) (hk : k < n) (h0 : eA l k ≠ 0) => chk_at (l := l) (k := k) (by rw [HL.out]; exact hlong) h1 (by rw [HL.out]; exact hk) h0)
  have HCE := Lib.hid (fun (h1 : ∀ i, i < n → eA l i = 0) => chk_end (l := l) (by rw [HL.out]; exact hlong) (by rw [HL.out]; exact h1))
  obtain ⟨R, hRR⟩ : ∃ R, chk l = R := ⟨_, rfl⟩
  rw [hRR] at HCA HCE ⊢
  clear hRR
  have hlong3 : ¬ (32 : Int) < n := by omega
  go_enter Try.func15, Try.ntmps15
  go_wp2_with fail
  refine OPS.out.mono ?_
  rintro e w1 ⟨m, rfl, hmo, kb1⟩
  have K1 := Lib.hid kb1
  have MO := Lib.hid hmo
  clear kb1 hmo OPS
  go_wp2_with fail
  go_loopw [2, 3, 14] (fun s2 s3 s14 wr => ∃ k : Nat, k ≤ n ∧ s14 = .int .i64 k ∧ s2 = .int .i64 0 ∧ s3 = .int .i64 0 ∧ Hid ((∀ j, j < k → eA l j = 0) ∧ Bel w1 wr)) (fun _ _ s14 _ => n - (intOf s14).toNat)
  case atStart => exact ⟨0, Nat.zero_le _, rfl, rfl, rfl, Lib.hid ⟨fun j hj => absurd hj (by omega), Bel.refl _⟩⟩
  case round =>
    obtain ⟨k, hk, rfl, rfl, rfl, hh⟩ := hrel
    by_cases hlt : k < n
    · obtain ⟨⟨r1, r2, r3, r4, r5, r6⟩, hr⟩ := HR.out.get hlt
      obtain ⟨b, o, rfl, hb, hrow⟩ := (HR.out.bel (K1.out.trans hh.out.2)).at hlt hr
      obtain ⟨j, hj1, hj2, hj3⟩ := fnd_at hr
      have hEA := eA_at hr
      rw [hj3] at hEA
      have AT := Lib.hid (fun x (hx : vE (decide (j < k)) (r1, r2, r3, r4, r5, r6) = x) (h0 : x ≠ 0) => show R = (x, k) from by
        have := HCA.out k hh.out.1 hlt (by rw [hEA, hx]; exact h0)
        rw [this, hEA, hx])
      have ZT := Lib.hid (fun (hx : vE (decide (j < k)) (r1, r2, r3, r4, r5, r6) = 0) => show eA l k = 0 from hEA.trans hx)
      have HW := Lib.hid (show I64 r1 from HO.out _ (List.mem_of_getElem? hr))
      have HJ := Lib.hid (show fnd l r1 = some j from hj1)
      have hlt3 : (k : Int) < n := by omega
      obtain ⟨c0, c1, c2, c3, c4, c5⟩ := rng6 (show wr.rangeAt b (o + k * 6) [.int .i64 r1, .int .u64 r2, .int .i64 r3, .int .i64 r4, .bool r5, .bool r6] from hrow)
      clear hr hrow hEA hj1 hj3
      go_upto_region 7 with fail
      have P0 := Lib.hid (Blk.new wr #[.int .i64 r1, .int .u64 r2, .int .i64 r3, .int .i64 r4, .bool r5, .bool r6] 66)
      obtain ⟨V, hV⟩ : ∃ V, wr.alloc (.cells #[.int .i64 r1, .int .u64 r2, .int .i64 r3, .int .i64 r4, .bool r5, .bool r6] 66) = V := ⟨_, rfl⟩
      have BV := Lib.hid (show Bel w1 V by rw [← hV]; exact hh.out.2.alloc _)
      rw [hV] at P0 ⊢
      obtain ⟨q, hq⟩ : ∃ q, wr.heap.size = q := ⟨_, rfl⟩
      rw [hq] at P0 ⊢
      clear hV hq c0 c1 c2 c3 c4 c5
      have c0 := P0.out.cell 0 rfl
      have c1 := P0.out.cell 1 rfl
      have c2 := P0.out.cell 2 rfl
      have c3 := P0.out.cell 3 rfl
      have c4 := P0.out.cell 4 rfl
      have c5 := P0.out.cell 5 rfl
      have hLV := load_v P0.out
      have hLK := mo_look (MO.out.bel BV.out) HW.out
      rw [HJ.out] at hLK
      simp only [Option.getD_some] at hLK
      have AG := Lib.hid (agrees r1 r2 r3 r4 r5 r6 V)
      have KV := Lib.hid (K1.out.trans BV.out)
      by_cases h1 : 0 ≤ r1 ∧ r1 < 64
      · skip
        have i1 := isAccount r1 V
        rw [decide_eq_true h1] at i1
        go_wp2_with fail
        refine i1.mono ?_
        rintro e wz ⟨rfl, rfl⟩
        clear i1
        by_cases h2 : 1 ≤ r3 ∧ r3 ≤ 4
        · skip
          have i1 := isStatus r3 V
          rw [decide_eq_true h2] at i1
          go_wp2_with fail
          refine i1.mono ?_
          rintro e wz ⟨rfl, rfl⟩
          clear i1
          by_cases h0 : r4 = 0
          · subst h0
            have HRG := rng_yes0 h1 h2
            clear h1 h2
            by_cases h4 : r2 = 0
            · have hR0 := AT.out _ (vE_2 HRG h4) (by decide)
              subst hR0 h4
              clear AT ZT
              go_wp2_with fail
              (try rw [Exit.noGoto_ret])
              go_ret2
              exact ⟨rfl, KV.out⟩
            · have e4 : (r2 == 0) = false := beq_eq_false_iff_ne.2 h4
              by_cases h5 : j < k
              · have hR0 := AT.out _ (vE_8 HRG h4 (decide_eq_true h5)) (by decide)
                have h53 : (j : Int) < k := by omega
                subst hR0
                clear AT ZT h4
                go_wp2_with fail
                (try rw [Exit.noGoto_ret])
                go_ret2
                exact ⟨rfl, KV.out⟩
              · have h53 : ¬ (j : Int) < k := by omega
                cases h6 : agrB r3 0 r5 r6
                · have hR0 := AT.out _ (vE_11 HRG h4 (decide_eq_false h5) h6) (by decide)
                  rw [h6] at AG
                  subst hR0
                  clear AT ZT h4 h6
                  go_wp2_with fail
                  refine AG.out.mono ?_
                  rintro e w2 ⟨rfl, kb2⟩
                  have K2 := Lib.hid (KV.out.trans kb2)
                  clear kb2 AG
                  go_wp2_with fail
                  (try rw [Exit.noGoto_ret])
                  go_ret2
                  exact ⟨rfl, K2.out⟩
                · have HZ := Lib.hid (ZT.out (vE_0 HRG h4 (decide_eq_false h5) h6))
                  rw [h6] at AG
                  clear AT ZT h4 h6
                  go_wp2_with fail
                  refine AG.out.mono ?_
                  rintro e w2 ⟨rfl, kb2⟩
                  have K2 := Lib.hid (BV.out.trans kb2)
                  clear kb2 AG
                  go_wp2_with fail
                  go_roundw
                  case rel =>
                    refine ⟨k + 1, by omega, by go_num, rfl, rfl, Lib.hid ⟨fun i hi => ?_, K2.out⟩⟩
                    rcases Nat.lt_or_ge i k with h' | h'
                    · exact hh.out.1 i h'
                    · obtain rfl : i = k := by omega
                      exact HZ.out
                  case measure => simp [intOf]; omega
          · have e0 : (r4 != 0) = true := by rw [bne_iff_ne]; exact h0
            cases h3 : untB r4
            · skip
              have hR0 := AT.out _ (vE_3 (rng_no3 h0 h3)) (by decide)
              subst hR0
              clear AT ZT h0
              have i1 := isUntil r4 V
              rw [h3] at i1
              go_wp2_with fail
              refine i1.mono ?_
              rintro e wz ⟨rfl, rfl⟩
              clear i1
              go_wp2_with fail
              (try rw [Exit.noGoto_ret])
              go_ret2
              exact ⟨rfl, KV.out⟩
            · have HRG := rng_yes h1 h2 h3
              clear h1 h2 h0
              have i1 := isUntil r4 V
              rw [h3] at i1
              go_wp2_with fail
              refine i1.mono ?_
              rintro e wz ⟨rfl, rfl⟩
              clear i1
              clear h3
              by_cases h4 : r2 = 0
              · have hR0 := AT.out _ (vE_2 HRG h4) (by decide)
                subst hR0 h4
                clear AT ZT
                go_wp2_with fail
                (try rw [Exit.noGoto_ret])
                go_ret2
                exact ⟨rfl, KV.out⟩
              · have e4 : (r2 == 0) = false := beq_eq_false_iff_ne.2 h4
                by_cases h5 : j < k
                · have hR0 := AT.out _ (vE_8 HRG h4 (decide_eq_true h5)) (by decide)
                  have h53 : (j : Int) < k := by omega
                  subst hR0
                  clear AT ZT h4
                  go_wp2_with fail
                  (try rw [Exit.noGoto_ret])
                  go_ret2
                  exact ⟨rfl, KV.out⟩
                · have h53 : ¬ (j : Int) < k := by omega
                  cases h6 : agrB r3 r4 r5 r6
                  · have hR0 := AT.out _ (vE_11 HRG h4 (decide_eq_false h5) h6) (by decide)
                    rw [h6] at AG
                    subst hR0
                    clear AT ZT h4 h6
                    go_wp2_with fail
                    refine AG.out.mono ?_
                    rintro e w2 ⟨rfl, kb2⟩
                    have K2 := Lib.hid (KV.out.trans kb2)
                    clear kb2 AG
                    go_wp2_with fail
                    (try rw [Exit.noGoto_ret])
                    go_ret2
                    exact ⟨rfl, K2.out⟩
                  · have HZ := Lib.hid (ZT.out (vE_0 HRG h4 (decide_eq_false h5) h6))
                    rw [h6] at AG
                    clear AT ZT h4 h6
                    go_wp2_with fail
                    refine AG.out.mono ?_
                    rintro e w2 ⟨rfl, kb2⟩
                    have K2 := Lib.hid (BV.out.trans kb2)
                    clear kb2 AG
                    go_wp2_with fail
                    go_roundw
                    case rel =>
                      refine ⟨k + 1, by omega, by go_num, rfl, rfl, Lib.hid ⟨fun i hi => ?_, K2.out⟩⟩
                      rcases Nat.lt_or_ge i k with h' | h'
                      · exact hh.out.1 i h'
                      · obtain rfl : i = k := by omega
                        exact HZ.out
                    case measure => simp [intOf]; omega
        · have hR0 := AT.out _ (vE_3 (rng_no2 h2)) (by decide)
          subst hR0
          clear AT ZT
          have i1 := isStatus r3 V
          rw [decide_eq_false h2] at i1
          go_wp2_with fail
          refine i1.mono ?_
          rintro e wz ⟨rfl, rfl⟩
          clear i1
          go_wp2_with fail
          (try rw [Exit.noGoto_ret])
          go_ret2
          exact ⟨rfl, KV.out⟩
      · have hR0 := AT.out _ (vE_3 (rng_no1 h1)) (by decide)
        subst hR0
        clear AT ZT
        have i1 := isAccount r1 V
        rw [decide_eq_false h1] at i1
        go_wp2_with fail
        refine i1.mono ?_
        rintro e wz ⟨rfl, rfl⟩
        clear i1
        go_wp2_with fail
        (try rw [Exit.noGoto_ret])
        go_ret2
        exact ⟨rfl, KV.out⟩
    · obtain rfl : k = n := by omega
      have h0 := HCE.out hh.out.1
      subst h0
      have KV := Lib.hid (K1.out.trans hh.out.2)
      go_wp2_with fail
      (try rw [Exit.noGoto_ret])
      go_ret2
      exact ⟨rfl, KV.out⟩
end Ro
end Go.Proofs.Ytpfdakkameifkaa
