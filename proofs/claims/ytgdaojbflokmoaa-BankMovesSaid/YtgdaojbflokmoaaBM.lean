/-
  Texts of this claim, put together: Br0, Br3, Bm1. What each one says, and under which conditions, stands ahead of it.
-/
import Derived.Test.YtgdaojbflokmoaaBG

section
/-
  What the reference's all and Check answer. Conditions: the amounts are words.
-/
namespace Go.Proofs.Ytgdaojbflokmoaa
open Go.RowKit Go.Shelf
set_option linter.unusedVariables false
namespace Bk
open Pm

set_option maxRecDepth 10000 in
set_option maxHeartbeats 2000000 in
theorem allR (Y : List Value) (zs ps : List Int) (w : World) (h : BV w Y zs ps) :
    Calls Try.prog 45 #[.agg Y.toArray] w fun e w' => ∃ v, e = .returned v ∧ Fresh w w' v (zs ++ ps) := by
  obtain ⟨A, c, eY, hs, hz, hp, h4, hn⟩ := h
  obtain ⟨W0, hW0⟩ : ∃ W0, w.alloc (.cells Y.toArray 26) = W0 := ⟨_, rfl⟩
  have B0 := Lib.hid (show Kk.Bel w W0 by rw [← hW0]; exact (Kk.Bel.refl w).alloc _)
  obtain ⟨p, hp0⟩ : ∃ p, w.heap.size = p := ⟨_, rfl⟩
  have r0 : W0.rangeAt p 0 Y := by rw [← hW0, ← hp0]; exact rngB (Kk.Blk.new w _ 26)
  rw [eY] at r0
  have c0 : W0.cell? ⟨p, 0, none⟩ = some (.slice A zs.length c) := bk_slice r0
  have PS := Lib.hid (fun V (hb : Kk.Bel W0 V) => pools_su (rng_bel r0 hb) h4)
  have HP := Lib.hid hp0
  have HW0 := Lib.hid hW0
  have H4 := Lib.hid h4
  have CC := Lib.hid (copyWords A zs.length c zs W0 (hs.bel B0.out) (by omega))
  have HNL := Lib.hid hn
  clear hs hz hp h4 hp0 hW0 r0 eY hn
  go_enter Try.func45, Try.ntmps45
  go_upto_region 1 with fail
  rw [HW0.out, HP.out]
  go_wp2_with fail
  refine CC.out.mono ?_
  rintro e w1 ⟨v1, rfl, hf⟩
  have F1 := Lib.hid hf
  clear hf CC c0
  go_wp2_with fail
  go_loopw [3, 4] (fun v i wr => ∃ k : Nat, i = .int .i64 k ∧ k ≤ 4 ∧ wr.ownsRow W0.heap.size 23 1 v (zs.length + k) ((zs ++ ps.take k).map (Value.int .u64)) ∧ Kk.Bel W0 wr) (fun _ i _ => 4 - (intOf i).toNat)
  case atStart => exact ⟨0, rfl, Nat.zero_le _, by rw [List.take_zero, List.append_nil]; exact F1.out.1, F1.out.2⟩
  case round =>
    rename_i v
    obtain ⟨k, rfl, hk, hown, hb⟩ := hrel
    have HO := Lib.hid hown
    have KB := Lib.hid hb
    clear hown hb
    by_cases hlt : k < 4
    · have hlt2 : (k : Int) < 4 := by omega
      have hcell : wr.cell? ⟨p, 1 + k, none⟩ = some (.int .u64 (ps.getD k 0)) := by
        obtain ⟨b, o, e, _, hc⟩ := (PS.out wr KB.out).ints.cell hlt
        injection e with e
        injection e with e1 e2
        subst e1 e2
        exact hc
      obtain ⟨x, hx⟩ : ∃ x, ps.getD k 0 = x := ⟨_, rfl⟩
      rw [hx] at hcell
      have HX := Lib.hid hx
      have L1 := Lib.hid (su_lit wr [x])
      have O1 := Lib.hid (Kk.owns_bel HO.out ((Kk.Bel.refl wr).alloc (.cells #[.int .u64 x] 23)))
      have BS := Lib.hid (show W0.heap.size ≤ (wr.alloc (.cells #[.int .u64 x] 23)).heap.size from Below.size (KB.out.alloc _))
      have hb1 : zs.length + k + 1 ≤ 1000000000000 := by have := HNL.out; omega
      clear hx
      go_wp2_with (at_builtin; refine wpList_append_u rfl _ _ rfl W0.heap.size _ (zs.length + k) _ rfl O1.out (some ⟨wr.heap.size, 0, none⟩) 1 1 [x] rfl L1.out hb1 BS.out ?_; intro v' w9 hown' hgrow)
      refine ⟨⟨k + 1, by go_num, by omega, ?_, (KB.out.alloc _).grown hgrow (fun j hj => (O1.out.lt j hj).1)⟩, ?_⟩
      · have e : ps.take (k + 1) = ps.take k ++ [x] := by
          rw [List.take_add_one, List.getElem?_eq_getElem (by rw [H4.out]; exact hlt), ← HX.out, Kk.getD_eq _ _ (by rw [H4.out]; exact hlt)]
          rfl
        rw [e, ← List.append_assoc, List.map_append, ← Nat.add_assoc]
        exact hown'
      · simp [intOf]; omega
    · obtain rfl : k = 4 := by omega
      have hlt2 : ¬ ((4 : Nat) : Int) < 4 := by omega
      go_wp2
      go_ret
      refine ⟨_, rfl, ?_, B0.out.trans KB.out⟩
      have h := HO.out
      rw [List.take_of_length_le (by rw [H4.out]; omega)] at h
      rw [List.length_append, H4.out]
      exact Kk.owns_mono h (Below.size B0.out)

set_option maxRecDepth 10000 in
set_option maxHeartbeats 2000000 in
theorem checkR (Y : List Value) (zs ps : List Int) (w : World) (h : BV w Y zs ps) :
    Calls Try.prog 19 #[.agg Y.toArray] w fun e w' => e = .returned (.int .i64 (chk zs ps)) ∧ Kk.Bel w w' := by
  have CA := Lib.hid (fun V (hb : Kk.Bel w V) => allR Y zs ps V (h.bel hb))
  have iY := Lib.hid (show (Try.prog.info? 26).map (·.size) = some Y.length by rw [h.len]; exact info_bank)
  obtain ⟨A, c, eY, hs, hz, hp, h4, hn⟩ := h
  obtain ⟨W0, hW0⟩ : ∃ W0, w.alloc (.cells Y.toArray 26) = W0 := ⟨_, rfl⟩
  have B0 := Lib.hid (show Kk.Bel w W0 by rw [← hW0]; exact (Kk.Bel.refl w).alloc _)
  obtain ⟨p, hp0⟩ : ∃ p, w.heap.size = p := ⟨_, rfl⟩
  have r0 : W0.rangeAt p 0 Y := by rw [← hW0, ← hp0]; exact rngB (Kk.Blk.new w _ 26)
  have R0 := Lib.hid r0
  rw [eY] at r0
  have c0 : W0.cell? ⟨p, 0, none⟩ = some (.slice A zs.length c) := bk_slice r0
  have HP := Lib.hid hp0
  have HW0 := Lib.hid hW0
  have uB := Try.underlying26
  have s0 := sum0 hz
  have s1 := sum0 hp
  have HWD := Lib.hid (words_app hz hp)
  obtain ⟨n, hnl⟩ : ∃ n, zs.length = n := ⟨_, rfl⟩
  rw [hnl] at c0 hn
  clear hs hz hp hp0 hW0 r0 eY
  by_cases h0 : n = 0
  · subst h0
    have HC := Lib.hid (show chk zs ps = 3 by unfold chk; rw [if_pos hnl])
    clear hnl
    go_enter Try.func19, Try.ntmps19
    go_upto_region 1 with fail
    rw [HW0.out, HP.out]
    go_wp2
    go_ret
    exact ⟨by rw [HC.out]; rfl, B0.out⟩
  have h0' : ((n : Int) == 0) = false := by simpa using h0
  by_cases h1 : 64 < n
  · have h1' : (64 : Int) < n := by omega
    have HC := Lib.hid (show chk zs ps = 4 by unfold chk; rw [if_neg (by omega), if_pos (by omega)])
    clear hnl
    go_enter Try.func19, Try.ntmps19
    go_upto_region 1 with fail
    rw [HW0.out, HP.out]
    go_wp2
    go_ret
    exact ⟨by rw [HC.out]; rfl, B0.out⟩
  have h1' : ¬ (64 : Int) < n := by omega
  obtain ⟨s, hsum⟩ : ∃ s, zs.sum + ps.sum = s := ⟨_, rfl⟩
  have HSM := Lib.hid (show (zs ++ ps).sum = s by rw [List.sum_append]; exact hsum)
  have HC := Lib.hid (show chk zs ps = if 4611686018427387904 < s then 12 else 0 by unfold chk; rw [if_neg (by omega), if_neg (by omega), hsum])
  have HLN := Lib.hid (show (zs ++ ps).length ≤ 1000 by rw [List.length_append, h4]; omega)
  have sp : 0 ≤ s := by omega
  clear hsum s0 s1 hnl h4
  go_enter Try.func19, Try.ntmps19
  go_upto_region 1 with fail
  rw [HW0.out, HP.out]
  go_wp2_with ((with_reducible refine wpList_load_g ?_ 26 (.tmp 1) ?_ p 0 ?_ Y _ R0.out uB ?_ iY.out ?_); rfl; rfl; rfl; rfl)
  refine (CA.out _ B0.out).mono ?_
  rintro e w1 ⟨v1, rfl, hf⟩
  obtain ⟨A1, c1, rfl, hsu⟩ := hf.su
  have K1 := Lib.hid hf.2
  obtain ⟨k, hk⟩ : ∃ k, (zs ++ ps).length = k := ⟨_, rfl⟩
  rw [hk] at hsu HLN ⊢
  have CS := Lib.hid (Ref.sum A1 k c1 (zs ++ ps) w1 hsu.ints HWD.out (by have := HLN.out; omega))
  rw [sum_all (zs ++ ps) hk, HSM.out] at CS
  clear hk
  clear hf hsu CA
  go_wp2_with fail
  refine CS.out.mono ?_
  rintro e w2 ⟨rfl, k2⟩
  have K2 := Lib.hid (B0.out.trans (K1.out.trans k2))
  clear k2 CS
  rcases Int.lt_or_le 18446744073709551615 s with hgt | hle
  · obtain ⟨e1, e2⟩ := Fix.amt_no hgt
    rw [e1, e2]
    have HC' := Lib.hid (show chk zs ps = 12 by rw [HC.out, if_pos (by omega)])
    clear e1 e2
    go_wp2
    go_ret
    exact ⟨by rw [HC'.out]; rfl, K2.out⟩
  · obtain ⟨e1, e2⟩ := Fix.amt_of hle
    rw [e1, e2]
    clear e1 e2
    by_cases hm : 4611686018427387904 < s
    · have HC' := Lib.hid (show chk zs ps = 12 by rw [HC.out, if_pos hm])
      go_wp2
      go_ret
      exact ⟨by rw [HC'.out]; rfl, K2.out⟩
    · have HC' := Lib.hid (show chk zs ps = 0 by rw [HC.out, if_neg hm])
      go_wp2
      go_ret
      exact ⟨by rw [HC'.out]; rfl, K2.out⟩
end Bk
end Go.Proofs.Ytgdaojbflokmoaa
end

section
/-
  What the reference's there, pool, arg, poor, Supply, Total and Have answer. Conditions: the amounts are words.
-/
namespace Go.Proofs.Ytgdaojbflokmoaa
open Go.RowKit Go.Shelf
set_option linter.unusedVariables false
namespace Bk
open Pm

set_option maxRecDepth 10000 in
set_option maxHeartbeats 1000000 in
theorem poolR (k : Int) (w : World) : Calls Try.prog 97 #[.int .i64 k] w fun e w' => e = .returned (.int .i64 (if k < 0 ∨ 4 ≤ k then 3 else 0)) ∧ Kk.Bel w w' := by
  by_cases h0 : k < 0
  · have HC := Lib.hid (show (if k < 0 ∨ 4 ≤ k then (3 : Int) else 0) = 3 by rw [if_pos (.inl h0)])
    rw [HC.out]
    go_enter Try.func97, Try.ntmps97
    go_wp2
    go_ret
    exact ⟨rfl, Kk.Bel.refl _⟩
  · have HC := Lib.hid (show (if k < 0 ∨ 4 ≤ k then (3 : Int) else 0) = if 4 ≤ k then 3 else 0 by by_cases h : 4 ≤ k <;> simp [h, h0])
    rw [HC.out]
    by_cases h1 : 4 ≤ k
    · rw [if_pos h1]
      go_enter Try.func97, Try.ntmps97
      go_wp2
      go_ret
      exact ⟨rfl, Kk.Bel.refl _⟩
    · rw [if_neg h1]
      go_enter Try.func97, Try.ntmps97
      go_wp2
      go_ret
      exact ⟨rfl, Kk.Bel.refl _⟩
set_option maxRecDepth 10000 in
theorem argR (q : Bool) (w : World) : Calls Try.prog 95 #[.bool q] w fun e w' => e = .returned (.int .i64 (if q = true then 2 else 0)) ∧ Kk.Bel w w' := by
  cases q
  · go_enter Try.func95, Try.ntmps95
    go_wp2
    go_ret
    exact ⟨rfl, Kk.Bel.refl _⟩
  · go_enter Try.func95, Try.ntmps95
    go_wp2
    go_ret
    exact ⟨rfl, Kk.Bel.refl _⟩
set_option maxRecDepth 10000 in
theorem poorR (x n : Int) (w : World) : Calls Try.prog 96 #[.int .u64 x, .int .u64 n] w fun e w' => e = .returned (.int .i64 (if x < n then 13 else 0)) ∧ Kk.Bel w w' := by
  by_cases h : x < n
  · rw [if_pos h]
    go_enter Try.func96, Try.ntmps96
    go_wp2
    go_ret
    exact ⟨rfl, Kk.Bel.refl _⟩
  · rw [if_neg h]
    go_enter Try.func96, Try.ntmps96
    go_wp2
    go_ret
    exact ⟨rfl, Kk.Bel.refl _⟩
set_option maxRecDepth 10000 in
set_option maxHeartbeats 1000000 in
theorem thereR (k : Int) (Y : List Value) (zs ps : List Int) (w : World) (h : BV w Y zs ps) :
    Calls Try.prog 47 #[.agg Y.toArray, .int .i64 k] w fun e w' => e = .returned (.int .i64 (if k < 0 ∨ (zs.length : Int) ≤ k then 10 else 0)) ∧ Kk.Bel w w' := by
  obtain ⟨A, c, eY, hs, hz, hp, h4, hn⟩ := h
  obtain ⟨W0, hW0⟩ : ∃ W0, w.alloc (.cells Y.toArray 26) = W0 := ⟨_, rfl⟩
  have B0 := Lib.hid (show Kk.Bel w W0 by rw [← hW0]; exact (Kk.Bel.refl w).alloc _)
  obtain ⟨p, hp0⟩ : ∃ p, w.heap.size = p := ⟨_, rfl⟩
  have r0 : W0.rangeAt p 0 Y := by rw [← hW0, ← hp0]; exact rngB (Kk.Blk.new w _ 26)
  rw [eY] at r0
  have c0 : W0.cell? ⟨p, 0, none⟩ = some (.slice A zs.length c) := bk_slice r0
  have HP := Lib.hid hp0
  have HW0 := Lib.hid hW0
  obtain ⟨n, hnl⟩ : ∃ n, zs.length = n := ⟨_, rfl⟩
  rw [hnl] at c0 hn ⊢
  clear hs hz hp h4 hp0 hW0 r0 eY hnl
  by_cases h0 : k < 0
  · have HC := Lib.hid (show (if k < 0 ∨ (n : Int) ≤ k then (10 : Int) else 0) = 10 by rw [if_pos (.inl h0)])
    rw [HC.out]
    go_enter Try.func47, Try.ntmps47
    go_upto_region 1 with fail
    rw [HW0.out, HP.out]
    go_wp2
    go_ret
    exact ⟨rfl, B0.out⟩
  · have HC := Lib.hid (show (if k < 0 ∨ (n : Int) ≤ k then (10 : Int) else 0) = if (n : Int) ≤ k then 10 else 0 by by_cases h : (n : Int) ≤ k <;> simp [h, h0])
    rw [HC.out]
    by_cases h1 : (n : Int) ≤ k
    · rw [if_pos h1]
      go_enter Try.func47, Try.ntmps47
      go_upto_region 1 with fail
      rw [HW0.out, HP.out]
      go_wp2
      go_ret
      exact ⟨rfl, B0.out⟩
    · rw [if_neg h1]
      go_enter Try.func47, Try.ntmps47
      go_upto_region 1 with fail
      rw [HW0.out, HP.out]
      go_wp2
      go_ret
      exact ⟨rfl, B0.out⟩
set_option maxRecDepth 10000 in
set_option maxHeartbeats 2000000 in
theorem supplyR (Y : List Value) (zs ps : List Int) (w : World) (h : BV w Y zs ps) :
    Calls Try.prog 13 #[.agg Y.toArray] w fun e w' => e = .returned (.tuple #[.int .u64 (okI (chk zs ps) (zs.sum + ps.sum)), .int .i64 (chk zs ps)]) ∧ Kk.Bel w w' := by
  have CK := Lib.hid (fun V (hb : Kk.Bel w V) => checkR Y zs ps V (h.bel hb))
  have CA := Lib.hid (fun V (hb : Kk.Bel w V) => allR Y zs ps V (h.bel hb))
  have iY := Lib.hid (show (Try.prog.info? 26).map (·.size) = some Y.length by rw [h.len]; exact info_bank)
  obtain ⟨A, c, eY, hs, hz, hp, h4, hn⟩ := h
  obtain ⟨W0, hW0⟩ : ∃ W0, w.alloc (.cells Y.toArray 26) = W0 := ⟨_, rfl⟩
  have B0 := Lib.hid (show Kk.Bel w W0 by rw [← hW0]; exact (Kk.Bel.refl w).alloc _)
  obtain ⟨p, hp0⟩ : ∃ p, w.heap.size = p := ⟨_, rfl⟩
  have r0 : W0.rangeAt p 0 Y := by rw [← hW0, ← hp0]; exact rngB (Kk.Blk.new w _ 26)
  have R0 := Lib.hid r0
  have HP := Lib.hid hp0
  have HW0 := Lib.hid hW0
  have uB := Try.underlying26
  have HWD := Lib.hid (words_app hz hp)
  obtain ⟨q, hq⟩ : ∃ q, chk zs ps = q := ⟨_, rfl⟩
  have HLN := Lib.hid (show q = 0 → (zs ++ ps).length ≤ 1000 ∧ zs.sum + ps.sum ≤ 4611686018427387904 from fun e => by have h1 := chk_ok (hq.trans e); rw [List.length_append, h4]; exact ⟨by omega, h1.2.2⟩)
  have HSM := Lib.hid (show (zs ++ ps).sum = zs.sum + ps.sum from List.sum_append)
  obtain ⟨s, hsum⟩ : ∃ s, zs.sum + ps.sum = s := ⟨_, rfl⟩
  rw [hsum] at HLN HSM ⊢
  rw [hq] at CK ⊢
  clear hs hz hp h4 hp0 hW0 r0 eY hq hsum
  go_enter Try.func13, Try.ntmps13
  go_upto_region 1 with fail
  rw [HW0.out, HP.out]
  go_wp2_with ((with_reducible refine wpList_load_g ?_ 26 (.tmp 1) ?_ p 0 ?_ Y _ R0.out uB ?_ iY.out ?_); rfl; rfl; rfl; rfl)
  refine (CK.out _ B0.out).mono ?_
  rintro e w1 ⟨rfl, k1⟩
  have B1 := Lib.hid (B0.out.trans k1)
  have R1 := Lib.hid (rng_bel R0.out k1)
  clear k1 CK
  by_cases hq0 : q = 0
  · subst hq0
    have HL := Lib.hid (HLN.out rfl)
    clear HLN
    go_wp2_with ((with_reducible refine wpList_load_g ?_ 26 (.tmp 1) ?_ p 0 ?_ Y _ R1.out uB ?_ iY.out ?_); rfl; rfl; rfl; rfl)
    refine (CA.out _ B1.out).mono ?_
    rintro e w2 ⟨v2, rfl, hf⟩
    obtain ⟨A2, c2, rfl, hsu⟩ := hf.su
    have K2 := Lib.hid (B1.out.trans hf.2)
    obtain ⟨k, hk⟩ : ∃ k, (zs ++ ps).length = k := ⟨_, rfl⟩
    rw [hk] at hsu HL ⊢
    have CS := Lib.hid (Ref.sum A2 k c2 (zs ++ ps) w2 hsu.ints HWD.out (by have := HL.out; omega))
    rw [sum_all (zs ++ ps) hk, HSM.out] at CS
    obtain ⟨e1, e2⟩ := Fix.amt_of (show s ≤ 18446744073709551615 by have := HL.out; omega)
    rw [e1, e2] at CS
    clear hk hf hsu CA e1 e2
    go_wp2_with fail
    refine CS.out.mono ?_
    rintro e w3 ⟨rfl, k3⟩
    have K3 := Lib.hid (K2.out.trans k3)
    clear k3 CS
    go_wp2
    go_ret2
    exact ⟨rfl, K3.out⟩
  · have hq1 : (q != 0) = true := by simpa using hq0
    go_wp2
    go_ret2
    exact ⟨by rw [okI_no _ hq0]; rfl, B1.out⟩
set_option maxRecDepth 10000 in
set_option maxHeartbeats 2000000 in
theorem totalR (Y : List Value) (zs ps : List Int) (w : World) (h : BV w Y zs ps) :
    Calls Try.prog 15 #[.agg Y.toArray] w fun e w' => e = .returned (.tuple #[.int .u64 (okI (chk zs ps) zs.sum), .int .i64 (chk zs ps)]) ∧ Kk.Bel w w' := by
  have CK := Lib.hid (fun V (hb : Kk.Bel w V) => checkR Y zs ps V (h.bel hb))
  have iY := Lib.hid (show (Try.prog.info? 26).map (·.size) = some Y.length by rw [h.len]; exact info_bank)
  obtain ⟨A, c, eY, hs, hz, hp, h4, hn⟩ := h
  obtain ⟨W0, hW0⟩ : ∃ W0, w.alloc (.cells Y.toArray 26) = W0 := ⟨_, rfl⟩
  have B0 := Lib.hid (show Kk.Bel w W0 by rw [← hW0]; exact (Kk.Bel.refl w).alloc _)
  obtain ⟨p, hp0⟩ : ∃ p, w.heap.size = p := ⟨_, rfl⟩
  have r0 : W0.rangeAt p 0 Y := by rw [← hW0, ← hp0]; exact rngB (Kk.Blk.new w _ 26)
  have R0 := Lib.hid r0
  rw [eY] at r0
  have C0 := Lib.hid (show W0.cell? ⟨p, 0, none⟩ = some (.slice A zs.length c) from bk_slice r0)
  have HP := Lib.hid hp0
  have HW0 := Lib.hid hW0
  have uB := Try.underlying26
  have HWD := Lib.hid hz
  have HS := Lib.hid hs
  obtain ⟨q, hq⟩ : ∃ q, chk zs ps = q := ⟨_, rfl⟩
  have s1 := sum0 hp
  have HLN := Lib.hid (show q = 0 → zs.length ≤ 1000 ∧ zs.sum ≤ 4611686018427387904 from fun e => by have h1 := chk_ok (hq.trans e); exact ⟨by omega, by omega⟩)
  rw [hq] at CK ⊢
  clear hs hz hp h4 hp0 hW0 r0 eY hq s1
  go_enter Try.func15, Try.ntmps15
  go_upto_region 1 with fail
  rw [HW0.out, HP.out]
  go_wp2_with ((with_reducible refine wpList_load_g ?_ 26 (.tmp 1) ?_ p 0 ?_ Y _ R0.out uB ?_ iY.out ?_); rfl; rfl; rfl; rfl)
  refine (CK.out _ B0.out).mono ?_
  rintro e w1 ⟨rfl, k1⟩
  have B1 := Lib.hid (B0.out.trans k1)
  have c1 := cell_bel C0.out k1
  clear k1 CK
  by_cases hq0 : q = 0
  · subst hq0
    have HL := Lib.hid (HLN.out rfl)
    have CS := Lib.hid (Ref.sum A zs.length c zs w1 (HS.out.bel B1.out).ints HWD.out (by have := HL.out; omega))
    rw [sum_all zs rfl] at CS
    obtain ⟨e1, e2⟩ := Fix.amt_of (show zs.sum ≤ 18446744073709551615 by have := HL.out; omega)
    rw [e1, e2] at CS
    clear e1 e2
    go_wp2_with fail
    refine CS.out.mono ?_
    rintro e w3 ⟨rfl, k3⟩
    have K3 := Lib.hid (B1.out.trans k3)
    clear k3 CS
    go_wp2
    go_ret2
    exact ⟨rfl, K3.out⟩
  · have hq1 : (q != 0) = true := by simpa using hq0
    go_wp2
    go_ret2
    exact ⟨by rw [okI_no _ hq0]; rfl, B1.out⟩
set_option maxRecDepth 10000 in
set_option maxHeartbeats 2000000 in
theorem haveR (k : Int) (Y : List Value) (zs ps : List Int) (w : World) (h : BV w Y zs ps) :
    Calls Try.prog 17 #[.agg Y.toArray, .int .i64 k] w fun e w' => e = .returned (.tuple #[.int .u64 (okI (havE zs ps k) (zs.getD k.toNat 0)), .int .i64 (havE zs ps k)]) ∧ Kk.Bel w w' := by
  have CK := Lib.hid (fun V (hb : Kk.Bel w V) => checkR Y zs ps V (h.bel hb))
  have CT := Lib.hid (fun V (hb : Kk.Bel w V) => thereR k Y zs ps V (h.bel hb))
  have iY := Lib.hid (show (Try.prog.info? 26).map (·.size) = some Y.length by rw [h.len]; exact info_bank)
  obtain ⟨A, c, eY, hs, hz, hp, h4, hn⟩ := h
  obtain ⟨W0, hW0⟩ : ∃ W0, w.alloc (.cells Y.toArray 26) = W0 := ⟨_, rfl⟩
  have B0 := Lib.hid (show Kk.Bel w W0 by rw [← hW0]; exact (Kk.Bel.refl w).alloc _)
  obtain ⟨p, hp0⟩ : ∃ p, w.heap.size = p := ⟨_, rfl⟩
  have r0 : W0.rangeAt p 0 Y := by rw [← hW0, ← hp0]; exact rngB (Kk.Blk.new w _ 26)
  have R0 := Lib.hid r0
  rw [eY] at r0
  have C0 := Lib.hid (show W0.cell? ⟨p, 0, none⟩ = some (.slice A zs.length c) from bk_slice r0)
  have HP := Lib.hid hp0
  have HW0 := Lib.hid hW0
  have uB := Try.underlying26
  have HS := Lib.hid hs
  obtain ⟨q, hq⟩ : ∃ q, chk zs ps = q := ⟨_, rfl⟩
  obtain ⟨t, ht⟩ : ∃ t : Int, (if k < 0 ∨ (zs.length : Int) ≤ k then 10 else 0) = t := ⟨_, rfl⟩
  have HE := Lib.hid (show havE zs ps k = if q = 0 then t else q by unfold havE; rw [hq, ht])
  have HT := Lib.hid (show t = 0 → 0 ≤ k ∧ k < zs.length from fun e => by rw [← ht] at e; split at e <;> omega)
  rw [hq] at CK
  rw [ht] at CT
  obtain ⟨n, hnl⟩ : ∃ n, zs.length = n := ⟨_, rfl⟩
  rw [hnl] at C0 HT HS
  clear hs hz hp h4 hp0 hW0 r0 eY hq ht hn hnl
  go_enter Try.func17, Try.ntmps17
  go_upto_region 1 with fail
  rw [HW0.out, HP.out]
  go_wp2_with ((with_reducible refine wpList_load_g ?_ 26 (.tmp 2) ?_ p 0 ?_ Y _ R0.out uB ?_ iY.out ?_); rfl; rfl; rfl; rfl)
  refine (CK.out _ B0.out).mono ?_
  rintro e w1 ⟨rfl, k1⟩
  have B1 := Lib.hid (B0.out.trans k1)
  have R1 := Lib.hid (rng_bel R0.out k1)
  have C1 := Lib.hid (cell_bel C0.out k1)
  clear k1 CK
  by_cases hq0 : q = 0
  · subst hq0
    have HE2 := Lib.hid (show havE zs ps k = t by rw [HE.out, if_pos rfl])
    go_wp2_with ((with_reducible refine wpList_load_g ?_ 26 (.tmp 2) ?_ p 0 ?_ Y _ R1.out uB ?_ iY.out ?_); rfl; rfl; rfl; rfl)
    refine (CT.out _ B1.out).mono ?_
    rintro e w2 ⟨rfl, k2⟩
    have B2 := Lib.hid (B1.out.trans k2)
    have c2 := cell_bel C1.out k2
    clear k2 CT
    by_cases ht0 : t = 0
    · subst ht0
      obtain ⟨k0, k1⟩ := HT.out rfl
      obtain ⟨j, rfl⟩ : ∃ j : Nat, k = j := ⟨k.toNat, by omega⟩
      have hj : j < n := by omega
      obtain ⟨ga, oa, rfl, hga, hce⟩ := (HS.out.bel B2.out).ints.cell hj
      obtain ⟨x, hx⟩ : ∃ x, zs.getD j 0 = x := ⟨_, rfl⟩
      rw [hx] at hce
      have HX := Lib.hid hx
      clear hx
      go_wp2
      go_ret2
      exact ⟨by rw [HE2.out, okI_0, Int.toNat_natCast, HX.out]; rfl, B2.out⟩
    · have ht1 : (t != 0) = true := by simpa using ht0
      go_wp2
      go_ret2
      exact ⟨by rw [HE2.out, okI_no _ ht0]; rfl, B2.out⟩
  · have hq1 : (q != 0) = true := by simpa using hq0
    have HE2 := Lib.hid (show havE zs ps k = q by rw [HE.out, if_neg hq0])
    go_wp2
    go_ret2
    exact ⟨by rw [HE2.out, okI_no _ hq0]; rfl, B1.out⟩
end Bk
end Go.Proofs.Ytgdaojbflokmoaa
end

section
/-
  What the reference's first and New answer; the memory of the reference's moves. Conditions: the amounts are words.
-/
namespace Go.Proofs.Ytgdaojbflokmoaa
open Go.RowKit Go.Shelf
set_option linter.unusedVariables false
namespace Bk
open Pm

/-- The first error of a list. -/
def fstE : List Int → Int
  | [] => 0
  | x :: l => if x = 0 then fstE l else x
theorem fstE_at {es : List Int} {k : Nat} (h : ∀ j, j < k → es.getD j 0 = 0) (hk : k < es.length) (hne : ¬ es.getD k 0 = 0) : fstE es = es.getD k 0 := by
  induction es generalizing k with
  | nil => simp at hk
  | cons x l ih =>
    match k, h, hk, hne with
    | 0, h, hk, hne => unfold fstE; rw [if_neg (by simpa using hne)]; simp
    | k + 1, h, hk, hne =>
      have h0 := h 0 (by omega)
      have h0 : x = 0 := by simpa using h0
      unfold fstE
      rw [if_pos h0]
      have := ih (k := k) (fun j hj => by have := h (j + 1) (by omega); simpa using this) (by simpa using hk) (by simpa using hne)
      rw [this]; simp
theorem fstE_end {es : List Int} (h : ∀ j, j < es.length → es.getD j 0 = 0) : fstE es = 0 := by
  induction es with
  | nil => rfl
  | cons x l ih =>
    have h0 := h 0 (by simp)
    have h0 : x = 0 := by simpa using h0
    unfold fstE
    rw [if_pos h0]
    exact ih fun j hj => by have := h (j + 1) (by simpa using hj); simpa using this
set_option maxHeartbeats 1000000 in
theorem firstR (b n c : Nat) (es : List Int) (w : World) (hl : es.length = n) (hn : n ≤ 100) (hc : ∀ i, i < n → w.cell? ⟨b, i, none⟩ = some (.int .i64 (es.getD i 0))) :
    Calls Try.prog 94 #[.slice (some ⟨b, 0, none⟩) n c] w fun e w' => e = .returned (.int .i64 (fstE es)) ∧ Kk.Bel w w' := by
  have HC := Lib.hid hc
  have HL := Lib.hid hl
  clear hc hl
  go_enter Try.func94, Try.ntmps94
  go_wp2_with fail
  go_loopw [3] (fun i wr => ∃ k : Nat, i = .int .i64 k ∧ k ≤ n ∧ Hid ((∀ j, j < k → es.getD j 0 = 0) ∧ w = wr)) (fun i _ => n - (intOf i).toNat)
  case atStart => exact ⟨0, rfl, Nat.zero_le _, Lib.hid ⟨fun j hj => absurd hj (by omega), rfl⟩⟩
  case round =>
    obtain ⟨k, rfl, hk, hh⟩ := hrel
    obtain ⟨hz, rfl⟩ := hh.out
    have HZ := Lib.hid hz
    clear hz hh
    by_cases hlt : k < n
    · have hcell := HC.out k hlt
      have k0 : (0 : Int) ≤ (k : Int) := by omega
      have k1 : (k : Int) < (n : Int) := by omega
      obtain ⟨E, hE⟩ : ∃ E, es.getD k 0 = E := ⟨_, rfl⟩
      rw [hE] at hcell
      have HE := Lib.hid hE
      clear hE
      by_cases hE : E = 0
      · subst hE
        go_wp2_with fail
        go_roundw
        case rel => exact ⟨k + 1, by go_num, by omega, Lib.hid ⟨fun j hj => by
          by_cases e : j = k
          · rw [e]; exact HE.out
          · exact HZ.out j (by omega), trivial⟩⟩
        case measure => simp [intOf]; omega
      · have hE1 : (E != 0) = true := by simpa using hE
        go_wp2_with fail
        go_ret
        exact ⟨by rw [fstE_at HZ.out (by rw [HL.out]; omega) (by rw [HE.out]; exact hE), HE.out]; rfl, Kk.Bel.refl _⟩
    · obtain rfl : k = n := by omega
      go_wp2_with fail
      go_ret
      exact ⟨by rw [fstE_end (by rw [HL.out]; exact HZ.out)]; rfl, Kk.Bel.refl _⟩

/-- The memory behind the copy: the bank's cells at a, the result's block behind it, the accounts' row g. -/
structure Sr (w : World) (a g cv : Nat) (zs : List Int) (Y : List Value) (W : World) : Prop where
  bel : Kk.Bel w W
  q : Kk.Blk W a Y.toArray 26
  r : Kk.Blk W (a + 1) ZB 26
  o : W.ownsRow w.heap.size 23 1 (.slice (some ⟨g, 0, none⟩) zs.length cv) zs.length (zs.map (Value.int .u64))
  le : w.heap.size ≤ a
theorem Sr.ga {w : World} {a g cv : Nat} {zs : List Int} {Y : List Value} {W : World} (h : Sr w a g cv zs Y W) : g ≠ a ∧ g ≠ a + 1 := by
  refine ⟨?_, ?_⟩
  · rintro rfl; exact h.q.not_row (by decide) h.o rfl
  · rintro rfl; exact h.r.not_row (by decide) h.o rfl
theorem Sr.kept {w : World} {a g cv : Nat} {zs : List Int} {Y : List Value} {W V : World} (h : Sr w a g cv zs Y W) (k : Kk.Bel W V) : Sr w a g cv zs Y V :=
  ⟨h.bel.trans k, h.q.bel k, h.r.bel k, Kk.owns_bel h.o k, h.le⟩
theorem Sr.gl {w : World} {a g cv : Nat} {zs : List Int} {Y : List Value} {W : World} (h : Sr w a g cv zs Y W) : w.heap.size ≤ g := (h.o.lt g rfl).1
theorem Sr.setZ {w : World} {a g cv : Nat} {zs : List Int} {Y : List Value} {W : World} (h : Sr w a g cv zs Y W) (k : Nat) (v : Int) : Sr w a g cv (zs.set k v) Y (W.setCell ⟨g, k, none⟩ (.int .u64 v)) := by
  refine ⟨h.bel.set (by show _ ≤ g; exact h.gl) _, h.q.other (fun e => h.ga.1 e.symm) k _, h.r.other (fun e => h.ga.2 e.symm) k _, ?_, h.le⟩
  have h2 := (h.o.stored k (.int .u64 v)).1
  rw [← List.map_set] at h2
  rw [List.length_set]
  exact h2
theorem Sr.setP {w : World} {a g cv : Nat} {zs ps : List Int} {u : Value} {W : World} (h : Sr w a g cv zs (bkC u ps) W) (k : Nat) (v : Int) : Sr w a g cv zs (bkC u (ps.set k v)) (W.setCell ⟨a, 1 + k, none⟩ (.int .u64 v)) := by
  refine ⟨h.bel.set (by show _ ≤ a; exact h.le) _, ?_, h.r.other (by omega) _ _, Kk.owns_set h.o (by intro e; exact h.ga.1 (Option.some.inj e)) _ _, h.le⟩
  have h2 := h.q.set (1 + k) (.int .u64 v)
  rw [List.setIfInBounds_toArray, Nat.add_comm, bkC, List.set_cons_succ, ← List.map_set] at h2
  rw [Nat.add_comm]
  exact h2
theorem Sr.cellZ {w : World} {a g cv : Nat} {zs : List Int} {Y : List Value} {W : World} (h : Sr w a g cv zs Y W) {k : Nat} (hk : k < zs.length) : W.cell? ⟨g, k, none⟩ = some (.int .u64 (zs.getD k 0)) ∧ W.frozen? ⟨g, k, none⟩ = false := by
  refine ⟨?_, h.o.frozenAt k⟩
  rw [h.o.cellAt k (by simpa using hk), List.getElem?_map, List.getElem?_eq_getElem hk, Kk.getD_eq _ _ hk]
  rfl
theorem Sr.cellP {w : World} {a g cv : Nat} {zs ps : List Int} {u : Value} {W : World} (h : Sr w a g cv zs (bkC u ps) W) {k : Nat} (hk : k < ps.length) : W.cell? ⟨a, 1 + k, none⟩ = some (.int .u64 (ps.getD k 0)) ∧ W.frozen? ⟨a, 1 + k, none⟩ = false := by
  refine ⟨h.q.cell (1 + k) ?_, h.q.frozen (1 + k)⟩
  rw [List.getElem?_toArray, Nat.add_comm, bkC, List.getElem?_cons_succ, List.getElem?_map, List.getElem?_eq_getElem hk, Kk.getD_eq _ _ hk]
  rfl
theorem Sr.cellS {w : World} {a g cv : Nat} {zs ps : List Int} {u : Value} {W : World} (h : Sr w a g cv zs (bkC u ps) W) : W.cell? ⟨a, 0, none⟩ = some u := h.q.cell 0 rfl
theorem Sr.fb {w : World} {a g cv L : Nat} {zs ps : List Int} {W : World} (h : Sr w a g cv zs (bkC (.slice (some ⟨g, 0, none⟩) L cv) ps) W) (hl : zs.length = L) : FB w W (.agg (bkC (.slice (some ⟨g, 0, none⟩) L cv) ps).toArray) zs ps := by
  subst hl
  exact ⟨_, rfl, h.o, h.bel⟩
end Bk
end Go.Proofs.Ytgdaojbflokmoaa
end
