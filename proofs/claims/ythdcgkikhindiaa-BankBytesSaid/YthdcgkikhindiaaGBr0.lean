/-
  What the reference's all and Check answer. Conditions: the amounts are words.
-/
import Derived.Test.YthdcgkikhindiaaBG
namespace Go.Proofs.Ythdcgkikhindiaa
open Go.RowKit Go.Shelf
set_option linter.unusedVariables false
namespace Bk
open Pm

set_option maxRecDepth 10000 in
set_option maxHeartbeats 2000000 in
theorem allR (Y : List Value) (zs ps : List Int) (w : World) (h : BV w Y zs ps) :
    Calls Try.prog 47 #[.agg Y.toArray] w fun e w' => ∃ v, e = .returned v ∧ Fresh w w' v (zs ++ ps) := by
  obtain ⟨A, c, eY, hs, hz, hp, h4, hn⟩ := h
  obtain ⟨W0, hW0⟩ : ∃ W0, w.alloc (.cells Y.toArray 26) = W0 := ⟨_, rfl⟩
  have B0 := Lib.hid (show Kk.Bel w W0 by rw [← hW0]; exact (Kk.Bel.refl w).alloc _)
  obtain ⟨p, hp0⟩ : ∃ p, w.heap.size = p := ⟨_, rfl⟩
  have r0 : W0.rangeAt p 0 Y := by rw [← hW0, ← hp0]; exact rngB (Kk.Blk.new w _ 26)
  rw [eY] at r0
  have c0 : W0.cell? ⟨p, 0, none⟩ = some (.slice A zs.length c) := bk_slice r0
  have PS := Lib.hid (fun V (hb : Kk.Bel W0 V) => pools_su (rng_bel r0 hb) h4)
  have HP := Lib.hid hp0
  have HW0 := Lib.hid hW0
  have H4 := Lib.hid h4
  have CC := Lib.hid (copyWords A zs.length c zs W0 (hs.bel B0.out) (by omega))
  have HNL := Lib.hid hn
  clear hs hz hp h4 hp0 hW0 r0 eY hn
  go_enter Try.func47, Try.ntmps47
  go_upto_region 1 with fail
  rw [HW0.out, HP.out]
  go_wp2_with fail
  refine CC.out.mono ?_
  rintro e w1 ⟨v1, rfl, hf⟩
  have F1 := Lib.hid hf
  clear hf CC c0
  go_wp2_with fail
  go_loopw [3, 4] (fun v i wr => ∃ k : Nat, i = .int .i64 k ∧ k ≤ 4 ∧ wr.ownsRow W0.heap.size 23 1 v (zs.length + k) ((zs ++ ps.take k).map (Value.int .u64)) ∧ Kk.Bel W0 wr) (fun _ i _ => 4 - (intOf i).toNat)
  case atStart => exact ⟨0, rfl, Nat.zero_le _, by rw [List.take_zero, List.append_nil]; exact F1.out.1, F1.out.2⟩
  case round =>
    rename_i v
    obtain ⟨k, rfl, hk, hown, hb⟩ := hrel
    have HO := Lib.hid hown
    have KB := Lib.hid hb
    clear hown hb
    by_cases hlt : k < 4
    · have hlt2 : (k : Int) < 4 := by omega
      have hcell : wr.cell? ⟨p, 1 + k, none⟩ = some (.int .u64 (ps.getD k 0)) := by
        obtain ⟨b, o, e, _, hc⟩ := (PS.out wr KB.out).ints.cell hlt
        injection e with e
        injection e with e1 e2
        subst e1 e2
        exact hc
      obtain ⟨x, hx⟩ : ∃ x, ps.getD k 0 = x := ⟨_, rfl⟩
      rw [hx] at hcell
      have HX := Lib.hid hx
      have L1 := Lib.hid (su_lit wr [x])
      have O1 := Lib.hid (Kk.owns_bel HO.out ((Kk.Bel.refl wr).alloc (.cells #[.int .u64 x] 23)))
      have BS := Lib.hid (show W0.heap.size ≤ (wr.alloc (.cells #[.int .u64 x] 23)).heap.size from Below.size (KB.out.alloc _))
      have hb1 : zs.length + k + 1 ≤ 1000000000000 := by have := HNL.out; omega
      clear hx
      go_wp2_with (at_builtin; refine wpList_append_u rfl _ _ rfl W0.heap.size _ (zs.length + k) _ rfl O1.out (some ⟨wr.heap.size, 0, none⟩) 1 1 [x] rfl L1.out hb1 BS.out ?_; intro v' w9 hown' hgrow)
      refine ⟨⟨k + 1, by go_num, by omega, ?_, (KB.out.alloc _).grown hgrow (fun j hj => (O1.out.lt j hj).1)⟩, ?_⟩
      · have e : ps.take (k + 1) = ps.take k ++ [x] := by
          rw [List.take_add_one, List.getElem?_eq_getElem (by rw [H4.out]; exact hlt), ← HX.out, Kk.getD_eq _ _ (by rw [H4.out]; exact hlt)]
          rfl
        rw [e, ← List.append_assoc, List.map_append, ← Nat.add_assoc]
        exact hown'
      · simp [intOf]; omega
    · obtain rfl : k = 4 := by omega
      have hlt2 : ¬ ((4 : Nat) : Int) < 4 := by omega
      go_wp2
      go_ret
      refine ⟨_, rfl, ?_, B0.out.trans KB.out⟩
      have h := HO.out
      rw [List.take_of_length_le (by rw [H4.out]; omega)] at h
      rw [List.length_append, H4.out]
      exact Kk.owns_mono h (Below.size B0.out)

set_option maxRecDepth 10000 in
set_option maxHeartbeats 2000000 in
theorem checkR (Y : List Value) (zs ps : List Int) (w : World) (h : BV w Y zs ps) :
    Calls Try.prog 22 #[.agg Y.toArray] w fun e w' => e = .returned (.int .i64 (chk zs ps)) ∧ Kk.Bel w w' := by
  have CA := Lib.hid (fun V (hb : Kk.Bel w V) => allR Y zs ps V (h.bel hb))
  have iY := Lib.hid (show (Try.prog.info? 26).map (·.size) = some Y.length by rw [h.len]; exact info_bank)
  obtain ⟨A, c, eY, hs, hz, hp, h4, hn⟩ := h
  obtain ⟨W0, hW0⟩ : ∃ W0, w.alloc (.cells Y.toArray 26) = W0 := ⟨_, rfl⟩
  have B0 := Lib.hid (show Kk.Bel w W0 by rw [← hW0]; exact (Kk.Bel.refl w).alloc _)
  obtain ⟨p, hp0⟩ : ∃ p, w.heap.size = p := ⟨_, rfl⟩
  have r0 : W0.rangeAt p 0 Y := by rw [← hW0, ← hp0]; exact rngB (Kk.Blk.new w _ 26)
  have R0 := Lib.hid r0
  rw [eY] at r0
  have c0 : W0.cell? ⟨p, 0, none⟩ = some (.slice A zs.length c) := bk_slice r0
  have HP := Lib.hid hp0
  have HW0 := Lib.hid hW0
  have uB := Try.underlying26
  have s0 := sum0 hz
  have s1 := sum0 hp
  have HWD := Lib.hid (words_app hz hp)
  obtain ⟨n, hnl⟩ : ∃ n, zs.length = n := ⟨_, rfl⟩
  rw [hnl] at c0 hn
  clear hs hz hp hp0 hW0 r0 eY
  by_cases h0 : n = 0
  · subst h0
    have HC := Lib.hid (show chk zs ps = 3 by unfold chk; rw [if_pos hnl])
    clear hnl
    go_enter Try.func22, Try.ntmps22
    go_upto_region 1 with fail
    rw [HW0.out, HP.out]
    go_wp2
    go_ret
    exact ⟨by rw [HC.out]; rfl, B0.out⟩
  have h0' : ((n : Int) == 0) = false := by simpa using h0
  by_cases h1 : 64 < n
  · have h1' : (64 : Int) < n := by omega
    have HC := Lib.hid (show chk zs ps = 4 by unfold chk; rw [if_neg (by omega), if_pos (by omega)])
    clear hnl
    go_enter Try.func22, Try.ntmps22
    go_upto_region 1 with fail
    rw [HW0.out, HP.out]
    go_wp2
    go_ret
    exact ⟨by rw [HC.out]; rfl, B0.out⟩
  have h1' : ¬ (64 : Int) < n := by omega
  obtain ⟨s, hsum⟩ : ∃ s, zs.sum + ps.sum = s := ⟨_, rfl⟩
  have HSM := Lib.hid (show (zs ++ ps).sum = s by rw [List.sum_append]; exact hsum)
  have HC := Lib.hid (show chk zs ps = if 4611686018427387904 < s then 12 else 0 by unfold chk; rw [if_neg (by omega), if_neg (by omega), hsum])
  have HLN := Lib.hid (show (zs ++ ps).length ≤ 1000 by rw [List.length_append, h4]; omega)
  have sp : 0 ≤ s := by omega
  clear hsum s0 s1 hnl h4
  go_enter Try.func22, Try.ntmps22
  go_upto_region 1 with fail
  rw [HW0.out, HP.out]
  go_wp2_with ((with_reducible refine wpList_load_g ?_ 26 (.tmp 1) ?_ p 0 ?_ Y _ R0.out uB ?_ iY.out ?_); rfl; rfl; rfl; rfl)
  refine (CA.out _ B0.out).mono ?_
  rintro e w1 ⟨v1, rfl, hf⟩
  obtain ⟨A1, c1, rfl, hsu⟩ := hf.su
  have K1 := Lib.hid hf.2
  obtain ⟨k, hk⟩ : ∃ k, (zs ++ ps).length = k := ⟨_, rfl⟩
  rw [hk] at hsu HLN ⊢
  have CS := Lib.hid (Ref.sum A1 k c1 (zs ++ ps) w1 hsu.ints HWD.out (by have := HLN.out; omega))
  rw [sum_all (zs ++ ps) hk, HSM.out] at CS
  clear hk
  clear hf hsu CA
  go_wp2_with fail
  refine CS.out.mono ?_
  rintro e w2 ⟨rfl, k2⟩
  have K2 := Lib.hid (B0.out.trans (K1.out.trans k2))
  clear k2 CS
  rcases Int.lt_or_le 18446744073709551615 s with hgt | hle
  · obtain ⟨e1, e2⟩ := Fix.amt_no hgt
    rw [e1, e2]
    have HC' := Lib.hid (show chk zs ps = 12 by rw [HC.out, if_pos (by omega)])
    clear e1 e2
    go_wp2
    go_ret
    exact ⟨by rw [HC'.out]; rfl, K2.out⟩
  · obtain ⟨e1, e2⟩ := Fix.amt_of hle
    rw [e1, e2]
    clear e1 e2
    by_cases hm : 4611686018427387904 < s
    · have HC' := Lib.hid (show chk zs ps = 12 by rw [HC.out, if_pos hm])
      go_wp2
      go_ret
      exact ⟨by rw [HC'.out]; rfl, K2.out⟩
    · have HC' := Lib.hid (show chk zs ps = 0 by rw [HC.out, if_neg hm])
      go_wp2
      go_ret
      exact ⟨by rw [HC'.out]; rfl, K2.out⟩
end Bk
end Go.Proofs.Ythdcgkikhindiaa
