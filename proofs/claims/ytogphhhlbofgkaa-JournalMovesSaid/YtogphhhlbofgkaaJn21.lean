/-
  The law JournalMoves returns true for any words and any acts, and changes nothing that was there. Condition: the arguments lie in memory as they come in.
-/
import Derived.Test.YtogphhhlbofgkaaJn20
namespace Go.Proofs.Ytogphhhlbofgkaa
open Go.RowKit Go.Shelf Go.Maps
set_option linter.unusedVariables false
namespace Jn
open Kk Pm Bk

theorem sum_le_sum {zs : List Int} (h : Words zs) {k : Nat} (hk : k ≤ zs.length) : 0 ≤ sumTo zs k ∧ sumTo zs k ≤ zs.sum := by
  refine ⟨sumTo0 h k, ?_⟩
  rw [sumTo_sum zs k hk]
  have h2 := sum0 (words_of (zs := zs.drop k) fun z hz => Words.mem h z (List.mem_of_mem_drop hz))
  have : zs.sum = (zs.take k).sum + (zs.drop k).sum := by rw [← List.sum_append, List.take_append_drop]
  omega
theorem movS_len (zs : List Int) (i k u : Int) : (movS zs i k u).length = zs.length := by
  unfold movS
  split <;> simp
theorem movS_sum (zs : List Int) (i k u : Int) : (movS zs i k u).sum = zs.sum := by
  unfold movS
  split
  · rename_i h
    have hr : 0 ≤ i ∧ i < zs.length ∧ 0 ≤ k ∧ k < zs.length ∧ i ≠ k := by
      unfold movE at h
      by_cases h1 : 0 ≤ i ∧ i < zs.length ∧ 0 ≤ k ∧ k < zs.length
      · refine ⟨h1.1, h1.2.1, h1.2.2.1, h1.2.2.2, fun e => ?_⟩
        rw [if_pos h1] at h
        subst e
        simp at h
      · rw [if_neg h1] at h
        simp at h
    have hi : i.toNat < zs.length := by omega
    have hk : k.toNat < zs.length := by omega
    have hne : i.toNat ≠ k.toNat := by omega
    rw [sum_set _ _ _ (by simpa using hk), sum_set _ _ _ hi]
    have : (zs.set i.toNat (zs.getD i.toNat 0 - u)).getD k.toNat 0 = zs.getD k.toNat 0 := by
      simp [List.getD_eq_getElem?_getD, hne]
    rw [this]
    omega
  · rfl
theorem movE_no {zs : List Int} {i k u E : Int} (h : movE zs i k u = E) (hE : ¬ E = 0) : movS zs i k u = zs := by
  unfold movS
  rw [if_neg (by rw [h]; exact hE)]
theorem movL_nil (zs : List Int) (i k u : Int) : movL zs [] i k u = [] := by
  unfold movL
  split <;> rfl

set_option maxRecDepth 100000 in
set_option maxHeartbeats 4000000 in
theorem movesLaw (A : Option Addr) (n c : Nat) (vs : List Int) (A2 : Option Addr) (n2 c2 : Nat) (w : World) (hs : SU w A n c vs) (hn : n ≤ 9223372036854775807) (hz : Words vs) (ha : Acts w A2 n2) :
    Calls Try.prog 9 #[.slice A n c, .slice A2 n2 c2] w fun e w' => e = .returned (.bool true) ∧ Bel w w' := by
  have KN := Lib.hid (known w)
  have HS := Lib.hid hs
  have HZ := Lib.hid hz
  have HA := Lib.hid ha
  clear hs hz ha
  go_enter Try.func9, Try.ntmps9
  go_wp2_with fail
  refine KN.out.mono ?_
  rintro e w1 ⟨rfl, hb1⟩
  have B1 := Lib.hid hb1
  have MD := Lib.hid (made0 w1)
  clear hb1
  go_wp2_with fail
  refine MD.out.mono ?_
  rintro e w2 ⟨pj, rfl, h2⟩
  have H2 := Lib.hid (show Nw w w2 pj [0, 0, 0, 0, 0, 0] [] by
    obtain ⟨M, I, hj, hm, hb⟩ := h2
    exact ⟨M, I, hj, fun b h => Nat.le_trans (Below.size B1.out) (hm b h), B1.out.trans hb⟩)
  clear h2
  by_cases hn2 : n2 ≤ 40
  · go_wp2_with fail
    go_loopw [7, 8] (fun s i wr => ∃ (k : Nat) (zs : List Int) (S : Int), k ≤ 6 ∧ i = .int .i64 k ∧ s = .int .u64 S ∧ zs.sum = S ∧ S ≤ k * 4294967296 ∧ zs.length = 6 ∧ (∀ j, k ≤ j → zs.getD j 0 = 0) ∧ Nw w wr pj zs []) (fun _ i _ => 6 - (iv i).toNat)
    case atStart =>
      refine ⟨0, [0, 0, 0, 0, 0, 0], 0, by decide, rfl, rfl, rfl, by decide, rfl, fun j _ => ?_, H2.out⟩
      match j with
      | 0 | 1 | 2 | 3 | 4 | 5 => rfl
      | k + 6 => rfl
    case round =>
      obtain ⟨k, zs, S, hk, rfl, rfl, hsum, hS, hl, hzero, hj⟩ := hrel
      have hS0 : 0 ≤ S := by rw [← hsum]; exact sum0 hj.lens.2.2.1
      have HL := Lib.hid hl
      have HSUM := Lib.hid hsum
      have HZE := Lib.hid hzero
      have HJ := Lib.hid hj
      clear hl hsum hzero hj
      by_cases hgo : k < 6 ∧ k < n
      · obtain ⟨hk6, hkn⟩ := hgo
        have hkn2 : (k : Int) < n := by omega
        have hk62 : (k : Int) < 6 := by omega
        obtain ⟨g1, o1, rfl, hg1, c1⟩ := (HS.out.ints.bel HJ.out.belw).cell hkn
        obtain ⟨x, hx⟩ : ∃ x, vs.getD k 0 = x := ⟨_, rfl⟩
        rw [hx] at c1
        have hx0 := HZ.out k
        rw [hx] at hx0
        obtain ⟨T, hT⟩ : ∃ T, x.tmod 4294967297 = T := ⟨_, rfl⟩
        have hT0 : 0 ≤ T ∧ T ≤ 4294967296 := by rw [← hT, Int.tmod_eq_emod_of_nonneg hx0.1]; omega
        obtain ⟨hT0, hT1⟩ := hT0
        have hwT : IntKind.u64.wrap T = T := IntWalk.u64_in _ (by omega)
        have hwS : IntKind.u64.wrap (S + T) = S + T := IntWalk.u64_in _ (by omega)
        have SE := Lib.hid (setN HJ.out (k : Int) T 0 (zs.set k T) [] hT0 (by omega) (by unfold inE; rw [HL.out, if_pos ⟨by omega, by omega⟩]) (by unfold setS; rw [HL.out, if_pos ⟨by omega, by omega⟩]; simp) (by unfold setL; split <;> rfl))
        clear hx
        go_wp2_with fail
        refine SE.out.mono ?_
        rintro e w4 ⟨rfl, h4⟩
        have H4 := Lib.hid h4
        clear h4
        go_wp2
        go_roundw
        case rel =>
          refine ⟨k + 1, zs.set k T, S + T, by omega, by go_num, rfl, ?_, by omega, by simp [HL.out], fun j hj => ?_, H4.out⟩
          · rw [sum_set _ _ _ (by rw [HL.out]; exact hk6), HSUM.out, HZE.out k (Nat.le_refl _)]; omega
          · rw [List.getD_eq_getElem?_getD, List.getElem?_set_ne (by omega), ← List.getD_eq_getElem?_getD]
            exact HZE.out j (by omega)
        case measure => simp [iv]; omega
      · have hS2 : S ≤ 25769803776 := by omega
        have HS2 := Lib.hid hS2
        have HS0 := Lib.hid hS0
        have HSS := Lib.hid hS
        clear hS2 hS0 hS
        have hgo2 : (k < 6 ∧ n ≤ k) ∨ 6 ≤ k := by omega
        rcases hgo2 with ⟨hk6, hkn⟩ | hk6
        all_goals
          have hk62 : ((k : Int) < 6 ∧ (n : Int) ≤ k) ∨ (6 : Int) ≤ k := by omega
          first
            | (have hk63 : (k : Int) < 6 := by omega
               have hk64 : (n : Int) ≤ k := by omega)
            | (have hk63 : (6 : Int) ≤ k := by omega)
          clear hk62
          go_wp2_with fail
          try simp only [show decide (k < n) = false from decide_eq_false (by omega)]
          go_loopw [10] (fun i wr => ∃ (m : Nat) (zs : List Int), m ≤ n2 ∧ i = .int .i64 m ∧ zs.sum = S ∧ zs.length = 6 ∧ Nw w wr pj zs []) (fun i _ => n2 - (iv i).toNat)
          case atStart => exact ⟨0, zs, Nat.zero_le _, rfl, HSUM.out, HL.out, HJ.out⟩
          case round =>
            clear HL HSUM HZE HJ hk hk6 hk63
            try clear hkn hk64
            obtain ⟨m, zs, hm, rfl, hsum, hl, hj⟩ := hrel
            have HL := Lib.hid hl
            have HSUM := Lib.hid hsum
            have HJ := Lib.hid hj
            clear hl hsum hj
            by_cases hmn : m < n2
            · obtain ⟨b, o, rfl, hb, hi⟩ := (HA.out.bel HJ.out.belw) (by omega)
              obtain ⟨a, p, q, u, hB, hr⟩ := hi m hmn
              have HR := Lib.hid hr
              have HBB := Lib.hid hB
              have CE := Lib.hid (cellsK HJ.out)
              have hmn2 : (m : Int) < n2 := by omega
              clear hi hr hB
              go_wp2_with fail
              refine CE.out.mono ?_
              rintro e w5 ⟨B, cB, rfl, hiB, hb5, hnB⟩
              have HNB := Lib.hid hnB
              rw [HL.out] at hiB ⊢
              have HI := Lib.hid hiB
              have HB5 := Lib.hid hb5
              have c1 : w5.cell? ⟨b, o + m * 4 + 1, none⟩ = some (.int .i64 p) := (rng_bel HR.out HB5.out) 1 _ rfl
              have c2 : w5.cell? ⟨b, o + m * 4 + 2, none⟩ = some (.int .i64 q) := (rng_bel HR.out HB5.out) 2 _ rfl
              have c3 : w5.cell? ⟨b, o + m * 4 + 3, none⟩ = some (.int .u64 u) := (rng_bel HR.out HB5.out) 3 _ rfl
              obtain ⟨E, hE⟩ : ∃ E, movE zs p q u = E := ⟨_, rfl⟩
              have MV := Lib.hid (moveK HJ.out (HB5.out.drew) (by decide) p q u E HBB.out.u0 HBB.out.u1 hE)
              have HE := Lib.hid hE
              clear hiB hb5 hE hnB
              go_upto_region 19 with fail
              go_still_tail 16, (by kernel_rfl)
              change wpList _ _ _ _ _ w5.drew
              go_wp2_with fail
              refine MV.out.mono ?_
              rintro e w6 ⟨rfl, h6, hk6⟩
              rw [movL_nil] at h6
              have HI6 := Lib.hid (hk6.ints (fun x hx => Nat.not_lt.2 (HNB.out x hx)) (HI.out.bel ((Bel.refl w5).drew)))
              have H6 := Lib.hid h6
              have HL6 := Lib.hid (show (movS zs p q u).length = 6 by rw [movS_len, HL.out])
              have CE2 := Lib.hid (cellsN H6.out)
              clear c1 c2 c3 h6 hk6
              go_wp2_with fail
              refine CE2.out.mono ?_
              rintro e w7 ⟨B2, cB2, rfl, hiB2, hb7⟩
              rw [HL6.out] at hiB2 ⊢
              have HI2 := Lib.hid hiB2
              have H7 := Lib.hid (H6.out.bel hb7)
              have HSM := Lib.hid (show (movS zs p q u).sum = S by rw [movS_sum, HSUM.out])
              have HI7 := Lib.hid (HI6.out.bel hb7)
              have HW2 := Lib.hid H7.out.lens.2.2.1
              clear hiB2 hb7
              have HMV := Lib.hid (fun hE0 : ¬ E = 0 => movE_no HE.out hE0)
              have KZ := Lib.hid (⟨_, rfl⟩ : ∃ zz, movS zs p q u = zz)
              obtain ⟨zz, hzz⟩ := KZ.out
              rw [hzz] at HMV HI2 H7 HSM HW2 HL6
              clear hzz KZ
              go_wp2_with fail
              go_loopw [14, 15] (fun s i wq => ∃ j : Nat, j ≤ 6 ∧ i = .int .i64 j ∧ s = .int .u64 (sumTo zz j) ∧ wq = w7) (fun _ i _ => 6 - (iv i).toNat)
              case atStart => exact ⟨0, Nat.zero_le _, rfl, rfl, rfl⟩
              case round =>
                obtain ⟨j, hj6, rfl, rfl, rfl⟩ := hrel
                by_cases hlt : j < 6
                · obtain ⟨g2, o2, rfl, hg2, c2⟩ := HI2.out.cell hlt
                  have hlt2 : (j : Int) < 6 := by omega
                  have hb := sum_le_sum HW2.out (k := j) (by rw [HL6.out]; exact hj6)
                  have hb2 := sum_le_sum HW2.out (k := j + 1) (by rw [HL6.out]; exact hlt)
                  have hsp : sumTo zz (j + 1) = sumTo zz j + zz.getD j 0 := rfl
                  obtain ⟨y, hy⟩ : ∃ y, zz.getD j 0 = y := ⟨_, rfl⟩
                  rw [hy] at c2 hsp
                  have hws : IntKind.u64.wrap (sumTo zz j + y) = sumTo zz (j + 1) := by
                    rw [← hsp]
                    have := HSM.out
                    have := HS2.out
                    exact IntWalk.u64_in _ (by omega)
                  clear hb hb2 hsp hy
                  go_wp2
                  go_roundw
                  case rel => exact ⟨j + 1, by omega, by go_num, by first | rfl | rw [hws], by first | trivial | rfl⟩
                  case measure => simp [iv]; omega
                · obtain rfl : j = 6 := by omega
                  have hsum : sumTo zz 6 = S := by rw [sum_all zz HL6.out, HSM.out]
                  rw [hsum]
                  by_cases hE0 : E = 0
                  · subst hE0
                    go_wp2
                    go_roundw
                    case rel => first
                      | exact ⟨m + 1, zz, by omega, by go_num, HSM.out, HL6.out, H7.out⟩
                      | exact ⟨m + 1, by omega, by go_num, zz, HSM.out, HL6.out, H7.out⟩
                    case measure => simp [iv]; omega
                  · have hEb : (E == 0) = false := by simp [hE0]
                    have hzz := HMV.out hE0
                    have SW := Lib.hid (sameW B B2 6 cB 6 cB2 zs zz _ HI7.out HI2.out (by decide) (by decide))
                    have HD := Lib.hid (show decide (zs = zz) = true from decide_eq_true hzz.symm)
                    clear hzz
                    go_wp2_with fail
                    refine SW.out.mono ?_
                    rintro e w8 ⟨rfl, hb8⟩
                    have H8 := Lib.hid (H7.out.bel hb8)
                    rw [HD.out]
                    clear hb8
                    go_wp2
                    go_roundw
                    case rel =>
                     first
                      | exact ⟨m + 1, zz, by omega, by go_num, HSM.out, HL6.out, H8.out⟩
                      | exact ⟨m + 1, by omega, by go_num, zz, HSM.out, HL6.out, H8.out⟩
                    case measure => simp [iv]; omega
            · obtain rfl : m = n2 := by omega
              go_wp2
              go_ret
              exact ⟨rfl, HJ.out.belw⟩
  · have hn3 : 40 < n2 := by omega
    go_wp2
    go_ret
    exact ⟨rfl, H2.out.belw⟩
end Jn
end Go.Proofs.Ytogphhhlbofgkaa
