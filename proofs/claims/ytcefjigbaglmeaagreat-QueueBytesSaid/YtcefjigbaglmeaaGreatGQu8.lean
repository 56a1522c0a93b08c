/-
  What the reference's sum tells. Conditions: at most a billion entries; the Balances are words.
-/
import Derived.Test.YtcefjigbaglmeaaGreatGQu7
namespace Go.Proofs.YtcefjigbaglmeaaGreat
open Go.RowKit Go.Shelf
set_option linter.unusedVariables false
set_option linter.unusedSimpArgs false
namespace Qu
open Kk Pm

/-- What sum tells: its number, and whether it is one. -/
def sumP (l : List E8) : Int × Bool := if 4611686018427387904 < tot l then (0, false) else (tot l, true)
set_option maxRecDepth 100000 in
set_option maxHeartbeats 4000000 in
theorem sumR (A : Option Addr) (n c : Nat) (l : List E8) (w : World) (hi : Rw.RS eR w A n c l) (hn : n ≤ 1000000000) (hw : Wd l) :
    Calls Tryz.prog 44 #[.slice A n c] w fun e w' => e = .returned (.tuple #[.int .u64 (sumP l).1, .bool (sumP l).2]) ∧ Bel w w' := by
  have HR := Lib.hid hi
  have HW := Lib.hid hw
  have HFIN := Lib.hid (show l.take n = l by rw [← hi.len]; exact List.take_length)
  have HNO := Lib.hid (show 4611686018427387904 < tot l → sumP l = (0, false) from fun h => if_pos h)
  have HYE := Lib.hid (show ¬ 4611686018427387904 < tot l → sumP l = (tot l, true) from fun h => if_neg h)
  obtain ⟨⟨R, B⟩, hRB⟩ : ∃ R, sumP l = R := ⟨_, rfl⟩
  rw [hRB] at HNO HYE ⊢
  clear hi hw hRB
  show Calls _ _ _ _ fun e w' => e = .returned (.tuple #[.int .u64 R, .bool B]) ∧ Bel w w'
  go_enter Tryz.func44, Tryz.ntmps44
  go_wp2_with fail
  go_loopw [2, 3, 4, 5] (fun s2 s3 s4 s5 wr => ∃ k : Nat, k ≤ n ∧ s5 = .int .i64 k ∧ s4 = .int .u64 (tot (l.take k)) ∧ s2 = .int .u64 0 ∧ s3 = .bool false ∧ Hid (tot (l.take k) ≤ 4611686018427387904) ∧ Hid (Bel w wr)) (fun _ _ _ s5 _ => n - (intOf s5).toNat)
  case atStart => exact ⟨0, Nat.zero_le _, rfl, rfl, rfl, rfl, Lib.hid (by show (0 : Int) ≤ _; omega), Lib.hid (Bel.refl _)⟩
  case round =>
    obtain ⟨k, hk, rfl, rfl, rfl, rfl, hs, hh⟩ := hrel
    by_cases hlt : k < n
    · obtain ⟨⟨r1, r2, r3, r4, r5, r6, r7, r8⟩, hr⟩ := HR.out.get hlt
      obtain ⟨b, q, rfl, hb, hrow⟩ := (HR.out.bel hh.out).at hlt hr
      have HNX := Lib.hid (show tot (l.take (k + 1)) = tot (l.take k) + r8 from tot_take hr)
      have HWR := Lib.hid (show 0 ≤ r8 ∧ r8 ≤ 18446744073709551615 from HW.out.at hr)
      have HT0 := Lib.hid (show 0 ≤ tot (l.take k) from tot_pos fun x hx => HW.out x (List.mem_of_mem_take hx))
      have HMO := Lib.hid (tot_mono HW.out (k + 1))
      have hlt3 : (k : Int) < n := by omega
      have hlt0 : (0 : Int) ≤ k := by omega
      obtain ⟨c0, c1, c2, c3, c4, c5, c6, c7⟩ := rng8 (show wr.rangeAt b (q + k * 8) [.int .i64 r1, .int .i64 r2, .int .i64 r3, .int .i64 r4, .int .i64 r5, .int .i64 r6, .int .u64 r7, .int .u64 r8] from hrow)
      clear hr hrow hb c0 c1 c2 c3 c4 c5 c6
      obtain ⟨t, ht⟩ : ∃ t, tot (l.take k) = t := ⟨_, rfl⟩
      rw [ht] at HNX HT0 hs ⊢
      clear ht
      have HBIG := Lib.hid (show 4611686018427387904 < t + r8 → 4611686018427387904 < tot l from fun h => by have := HNX.out; have := HMO.out; omega)
      have AD := Lib.hid (fun V => Ref.add t r8 V HT0.out (by have := hs.out; omega) HWR.out.1 HWR.out.2)
      by_cases h1 : t + r8 ≤ 18446744073709551615
      · have HA := Lib.hid (Fix.amt_of h1)
        have AD2 := Lib.hid (show ∀ V, Calls Tryz.prog 75 #[.int .u64 t, .int .u64 r8] V fun e w' => e = .returned (.tuple #[.int .u64 (t + r8), .int .i64 0]) ∧ V = w' from fun V => by
          have := AD.out V
          rw [HA.out.1, HA.out.2] at this
          exact this)
        clear AD HA h1
        by_cases h2 : 4611686018427387904 < t + r8
        · have hr := HNO.out (HBIG.out h2)
          injection hr with q1 q2
          subst q1 q2
          clear HNO HYE
          have AD3 := AD2.out wr
          go_wp2_with fail
          refine AD3.mono ?_
          rintro e wz ⟨rfl, rfl⟩
          clear AD3 AD2
          go_wp2_with fail
          (try rw [Exit.noGoto_ret])
          go_ret2
          exact ⟨rfl, hh.out⟩
        · have HS2 := Lib.hid (show tot (l.take (k + 1)) ≤ 4611686018427387904 by have := HNX.out; omega)
          have AD3 := AD2.out wr
          go_wp2_with fail
          refine AD3.mono ?_
          rintro e wz ⟨rfl, rfl⟩
          clear AD3 AD2
          go_wp2_with fail
          go_roundw
          case rel => exact ⟨k + 1, by omega, by go_num, by rw [HNX.out], rfl, rfl, HS2, hh⟩
          case measure => simp [intOf]; omega
      · have HA := Lib.hid (Fix.amt_no (P := t + r8) (by omega))
        have AD2 := Lib.hid (show ∀ V, Calls Tryz.prog 75 #[.int .u64 t, .int .u64 r8] V fun e w' => e = .returned (.tuple #[.int .u64 0, .int .i64 12]) ∧ V = w' from fun V => by
          have := AD.out V
          rw [HA.out.1, HA.out.2] at this
          exact this)
        have hr := HNO.out (HBIG.out (by omega))
        injection hr with q1 q2
        subst q1 q2
        clear HNO HYE AD HA h1
        have AD3 := AD2.out wr
        go_wp2_with fail
        refine AD3.mono ?_
        rintro e wz ⟨rfl, rfl⟩
        clear AD3 AD2
        go_wp2_with fail
        (try rw [Exit.noGoto_ret])
        go_ret2
        exact ⟨rfl, hh.out⟩
    · obtain rfl : k = n := by omega
      have hlt3 : ¬ (k : Int) < k := by omega
      rw [HFIN.out] at hs ⊢
      have hr := HYE.out (by have := hs.out; omega)
      injection hr with q1 q2
      subst q1 q2
      clear HNO HYE
      go_wp2_with fail
      (try rw [Exit.noGoto_ret])
      go_ret2
      exact ⟨rfl, hh.out⟩
end Qu
end Go.Proofs.YtcefjigbaglmeaaGreat
