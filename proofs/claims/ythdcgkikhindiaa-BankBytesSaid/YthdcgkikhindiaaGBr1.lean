/-
  What the reference's Bytes answers. Conditions: the amounts are words.
-/
import Derived.Test.YthdcgkikhindiaaGBr0
import Derived.Test.YthdcgkikhindiaaBH
namespace Go.Proofs.Ythdcgkikhindiaa
open Go.RowKit Go.Shelf
set_option linter.unusedVariables false
namespace Bk
open Pm

/-- Rows of two types lie apart. -/
theorem rows_ne {w : World} {base base' : Nat} {e e' : TypeId} {size size' n n' : Nat} {v v' : Value} {xs xs' : List Value} (h : w.ownsRow base e size v n xs) (h' : w.ownsRow base' e' size' v' n' xs') (hne : e ≠ e') : v.ownBlock = none ∨ v.ownBlock ≠ v'.ownBlock := by
  rcases h.2 with ⟨rfl, _⟩ | ⟨g, cap, cur, rfl, _, hg, _⟩
  · exact .inl rfl
  · refine .inr fun e2 => ?_
    rcases h'.2 with ⟨rfl, _⟩ | ⟨g', cap', cur', rfl, _, hg', _⟩
    · cases e2
    · obtain rfl : g = g' := Option.some.inj e2
      rw [hg] at hg'
      injection hg' with hg'
      injection hg' with _ hg'
      exact hne hg'

set_option maxRecDepth 10000 in
set_option maxHeartbeats 4000000 in
theorem bytesR (Y : List Value) (zs ps : List Int) (w : World) (h : BV w Y zs ps) :
    Calls Try.prog 27 #[.agg Y.toArray] w fun e w' => ∃ v, e = .returned (.tuple #[v, .int .i64 (chk zs ps)]) ∧ Kk.Fresh w w' v (bytesB zs ps) := by
  have CK := Lib.hid (fun V (hb : Kk.Bel w V) => checkR Y zs ps V (h.bel hb))
  have iY := Lib.hid (show (Try.prog.info? 26).map (·.size) = some Y.length by rw [h.len]; exact info_bank)
  obtain ⟨L, hL⟩ : ∃ L, zs ++ ps = L := ⟨_, rfl⟩
  have CA := Lib.hid (fun V (hb : Kk.Bel w V) => allR Y zs ps V (h.bel hb))
  rw [hL] at CA
  have HG := Lib.hid h.good
  obtain ⟨A, c, eY, hs, hz, hp, h4, hn⟩ := h
  obtain ⟨W0, hW0⟩ : ∃ W0, w.alloc (.cells Y.toArray 26) = W0 := ⟨_, rfl⟩
  have B0 := Lib.hid (show Kk.Bel w W0 by rw [← hW0]; exact (Kk.Bel.refl w).alloc _)
  obtain ⟨p, hp0⟩ : ∃ p, w.heap.size = p := ⟨_, rfl⟩
  have r0 : W0.rangeAt p 0 Y := by rw [← hW0, ← hp0]; exact rngB (Kk.Blk.new w _ 26)
  have R0 := Lib.hid r0
  rw [eY] at r0
  have c0 : W0.cell? ⟨p, 0, none⟩ = some (.slice A zs.length c) := bk_slice r0
  have HP := Lib.hid hp0
  have HW0 := Lib.hid hW0
  have uB := Try.underlying26
  have HWD := Lib.hid (show Words L by rw [← hL]; exact words_app hz hp)
  obtain ⟨n, hnl⟩ : ∃ n, zs.length = n := ⟨_, rfl⟩
  have HLL := Lib.hid (show L.length = n + 4 by rw [← hL, List.length_append, h4, hnl])
  have HBB := Lib.hid (show chk zs ps = 0 → bytesB zs ps = Cd.enc n ++ encs L from fun hc => by unfold bytesB; rw [if_pos hc, hL, hnl])
  have HB0 := Lib.hid (show ¬ chk zs ps = 0 → bytesB zs ps = [] from fun hc => by unfold bytesB; rw [if_neg hc])
  have HN := Lib.hid (show chk zs ps = 0 → n ≤ 64 from fun hc => by rw [← hnl]; exact (chk_ok hc).2.1)
  rw [hnl] at c0
  obtain ⟨q, hq⟩ : ∃ q, chk zs ps = q := ⟨_, rfl⟩
  rw [hq] at CK HBB HB0 HN ⊢
  clear hs hz hp hp0 hW0 r0 eY h4 hn hL hnl hq
  go_enter Try.func27, Try.ntmps27
  go_upto_region 1 with fail
  rw [HW0.out, HP.out]
  go_wp2_with ((with_reducible refine wpList_load_g ?_ 26 (.tmp 1) ?_ p 0 ?_ Y _ R0.out uB ?_ iY.out ?_); rfl; rfl; rfl; rfl)
  refine (CK.out _ B0.out).mono ?_
  rintro e w1 ⟨rfl, k1⟩
  have K1 := Lib.hid (B0.out.trans k1)
  have c1 := cell_bel c0 k1
  have R1 := Lib.hid (rng_bel R0.out k1)
  clear k1 CK c0
  by_cases hq0 : q = 0
  · subst hq0
    have hn64 := HN.out rfl
    have HBB0 := Lib.hid (HBB.out rfl)
    clear HBB
    have PN := Lib.hid (fun V => Cd.ref_put n V (by omega) (by omega))
    go_wp2_with fail
    refine (PN.out _).mono ?_
    rintro e w2 ⟨v2, rfl, hf⟩
    have F2 := Lib.hid hf
    have K2 := Lib.hid (K1.out.trans hf.2)
    have R2 := Lib.hid (rng_bel R1.out hf.2)
    clear hf PN
    go_wp2_with ((with_reducible refine wpList_load_g ?_ 26 (.tmp 1) ?_ p 0 ?_ Y _ R2.out uB ?_ iY.out ?_); rfl; rfl; rfl; rfl)
    refine (CA.out _ K2.out).mono ?_
    rintro e w3 ⟨v3, rfl, hf3⟩
    obtain ⟨A3, c3, rfl, hsu⟩ := hf3.su
    have U3 := Lib.hid hf3.1
    have K3 := Lib.hid (show Kk.Bel w2 w3 from hf3.2)
    have O3 := Lib.hid (show w3.ownsRow w1.heap.size 5 1 v2 (Cd.enc n).length ((Cd.enc n).map (Value.int .u8)) from Kk.owns_bel F2.out.1 hf3.2)
    rw [HLL.out] at U3
    rw [HLL.out]
    have HCA := Lib.hid hsu.cap
    clear hsu hf3 CA R1 R2
    go_wp2_with fail
    go_loopw [5, 7] (fun v i wr => ∃ k : Nat, i = .int .i64 k ∧ k ≤ n + 4 ∧ wr.ownsRow w1.heap.size 5 1 v (Cd.enc n ++ encs (L.take k)).length ((Cd.enc n ++ encs (L.take k)).map (Value.int .u8)) ∧ wr.ownsRow w2.heap.size 23 1 (.slice A3 (n + 4) c3) (n + 4) (L.map (Value.int .u64)) ∧ Kk.Bel w1 wr) (fun _ i _ => n + 4 - (intOf i).toNat)
    case atStart => exact ⟨0, rfl, Nat.zero_le _, by simpa [encs] using O3.out, U3.out, F2.out.2.trans K3.out⟩
    case round =>
      obtain ⟨k, rfl, hk, hown, hu, hb⟩ := hrel
      have HU := Lib.hid hu
      clear hu
      have HO := Lib.hid hown
      have KB := Lib.hid hb
      clear hown hb
      by_cases hlt : k < n + 4
      · have hlt2 : (k : Int) < (n : Int) + 4 := by omega
        obtain ⟨ga, oa, rfl, hga, hce⟩ := (show Kk.Ints .u64 wr A3 (n + 4) L by
          obtain ⟨A9, c9, e9, h9⟩ := su_of_own HU.out
          injection e9 with a9 _ _
          rw [a9]
          exact h9.ints).cell hlt
        obtain ⟨x0, x1⟩ := words_at HWD.out k
        have HT := Lib.hid (take_succ' L k (by rw [HLL.out]; exact hlt))
        obtain ⟨x, hx⟩ : ∃ x, L.getD k 0 = x := ⟨_, rfl⟩
        rw [hx] at hce x0 x1 HT
        have PX := Lib.hid (Cd.ref_put x wr x0 x1)
        have hbx := Lib.hid (Cd.enc_len x).2
        have hbl := Lib.hid (encs_len (L.take k))
        have hbl2 := Lib.hid (show (L.take k).length = k by rw [List.length_take, HLL.out]; omega)
        have hbn := Lib.hid (Cd.enc_len (n : Int)).2
        obtain ⟨zx, hzx⟩ : ∃ zx, Cd.enc x = zx := ⟨_, rfl⟩
        obtain ⟨O, hO⟩ : ∃ O, Cd.enc n ++ encs (L.take k) = O := ⟨_, rfl⟩
        have HOX := Lib.hid (show Cd.enc n ++ encs (L.take (k + 1)) = O ++ zx by rw [HT.out, encs_app, encs_one, ← hO, ← hzx, List.append_assoc])
        have HOL := Lib.hid (show O.length ≤ 1000 by rw [← hO, List.length_append]; have h1 := hbl.out; have h2 := hbl2.out; have h3 := hbn.out; rw [h2] at h1; omega)
        rw [hO] at HO
        rw [hzx] at PX hbx
        obtain ⟨ol, hol⟩ : ∃ ol, O.length = ol := ⟨_, rfl⟩
        obtain ⟨zl, hzl⟩ : ∃ zl, zx.length = zl := ⟨_, rfl⟩
        rw [hol] at HO HOL
        have HOLE := Lib.hid hol
        have HZLE := Lib.hid hzl
        clear hx hO hzx hol hzl HT hbl hbl2 hbn
        go_wp2_with fail
        refine PX.out.mono ?_
        rintro e w5 ⟨v5, rfl, hf5⟩
        obtain ⟨A5, c5, rfl, hsl⟩ := (show Kk.Fresh wr w5 v5 zx from hf5).sl
        have K5 := Lib.hid (show Kk.Bel wr w5 from hf5.2)
        have O5 := Lib.hid (Kk.owns_bel HO.out K5.out)
        have SL5 := Lib.hid hsl
        rw [HZLE.out] at SL5
        rw [HZLE.out]
        have BS := Lib.hid (show w1.heap.size ≤ w5.heap.size from Nat.le_trans (Below.size KB.out) (Below.size K5.out))
        have hbnd : ol + zl ≤ 1000000000000 := by have h1 := HOL.out; have h2 := hbx.out; rw [HZLE.out] at h2; omega
        clear hf5 hsl PX
        go_wp2_with (at_builtin; refine Kk.wpList_append_sl rfl _ _ rfl w1.heap.size u5 ol _ rfl O5.out A5 zl c5 zx rfl SL5.out hbnd BS.out ?_; intro v' w6 hown' hgrow)
        refine ⟨⟨k + 1, by go_num, by omega, ?_, ?_, (KB.out.trans K5.out).grown hgrow (fun j hj => (O5.out.lt j hj).1)⟩, ?_⟩
        · rw [HOX.out, List.map_append, List.length_append, HOLE.out, HZLE.out]
          exact hown'
        · exact (Kk.owns_bel HU.out K5.out).kept hgrow (rows_ne (Kk.owns_bel HU.out K5.out) O5.out (by decide))
        · simp [intOf]; omega
      · obtain rfl : k = n + 4 := by omega
        have hlt2 : ¬ ((n : Int) + 4) < (n : Int) + 4 := by omega
        have hO2 := HO.out
        rw [List.take_of_length_le (by rw [HLL.out]; omega), ← HBB0.out] at hO2
        have HO2 := Lib.hid (show Kk.Fresh w wr u5 (bytesB zs ps) from ⟨Kk.owns_mono hO2 (Below.size K1.out), K1.out.trans KB.out⟩)
        clear hO2 HO
        go_wp2
        go_ret2
        exact ⟨_, rfl, HO2.out⟩
  · have hq1 : (q != 0) = true := by simpa using hq0
    go_wp2
    go_ret2
    exact ⟨_, rfl, by rw [HB0.out hq0]; exact ⟨⟨rfl, .inl ⟨rfl, rfl⟩⟩, K1.out⟩⟩
end Bk
end Go.Proofs.Ythdcgkikhindiaa
