/-
  What keccak.Join answers in this program: the hash of a kind and of what stands together, each with its length ahead. Conditions: not many bytes; the table of turns lies in its variable.
-/
import Derived.Test.YtaniijpppmipbaaDoorKHash
import Derived.Test.YtaniijpppmipbaaDoorKLst
namespace Go.Proofs.YtaniijpppmipbaaDoor
open Go.RowKit Go.Shelf
set_option linter.unusedVariables false
namespace Kk

/-- The bytes of a kind and of the first k. -/
def joinB (kd : Int) (zss : List (List Int)) : Nat → List Int
  | 0 => [kd]
  | k + 1 => (joinB kd zss k ++ bytesOf (BitVec.ofInt 64 ((zss.getD k []).length : Int))) ++ zss.getD k []
theorem joinB_len (kd : Int) (zss : List (List Int)) : ∀ k, (joinB kd zss k).length = 1 + 8 * k + tot zss k
  | 0 => rfl
  | k + 1 => by
    show ((joinB kd zss k ++ _) ++ _).length = _
    rw [List.length_append, List.length_append, joinB_len kd zss k, len_bytesOf]
    show _ = 1 + 8 * (k + 1) + (tot zss k + _)
    omega
theorem U_nat {m : Nat} (h : m ≤ 140737488355328) : U (BitVec.ofInt 64 (m : Int)) = (m : Int) := U_ofInt (by omega) (by omega)

set_option maxRecDepth 100000 in
set_option maxHeartbeats 4000000 in
theorem join (kd : Int) (A : Option Addr) (n c : Nat) (zss : List (List Int)) (w : World) (hL : Lst w A n zss) (k0 : 0 ≤ kd) (k1 : kd ≤ 255) (ht : tot zss n ≤ 1000000) (hn : n ≤ 1000) (hT : Tn w) :
    Calls Tryd.prog 18 #[.int .u8 kd, .slice A n c] w fun e w' => e = .returned (hsV (sumOf (joinB kd zss n))) ∧ Bel w w' := by
  have h0 := hT.1
  have HL := Lib.hid hL
  have HT := Lib.hid hT
  obtain ⟨h, hh⟩ : ∃ h, h = w.heap.size := ⟨_, rfl⟩
  have HH := Lib.hid hh
  clear hL hT hh
  go_enter Tryd.func18, Tryd.ntmps18
  go_wp2_with fail
  have B1 := Lib.hid ((Bel.refl w).alloc Z32h)
  have T1 := Lib.hid (show (w.alloc Z32h).there h 0 32 by rw [HH.out]; exact there_newK (by decide))
  refine (newSponge _).mono ?_
  rintro e w1 ⟨rfl, h1⟩
  have H1 := Lib.hid (B1.out.trans h1)
  have TH1 := Lib.hid (there_bel T1.out h1)
  clear h1 T1 B1
  obtain ⟨C, hC⟩ : ∃ C, C = spCells zero 0 zero136 0 0 := ⟨_, rfl⟩
  have HC := Lib.hid hC
  have HCl := Lib.hid (show C.length = 188 by rw [hC]; exact len_sp len_zero (by rfl) _ _ _)
  have HCs := Lib.hid (show C.toArray.size = 188 by rw [List.size_toArray]; exact HCl.out)
  have HCo := Lib.hid (all_oneCell_toArray (cs := C) (by rw [hC]; exact all_sp _ _ _ _ _))
  have HI := Lib.hid (show (Tryd.prog.info? 59).map (·.size) = some C.toArray.size by rw [HCs.out]; exact info_sp)
  rw [show spV zero 0 zero136 0 0 = .agg C.toArray by rw [hC]]
  have TS := Lib.hid (show (w1.alloc (.cells Tryd.zeroCells59 59)).there w1.heap.size 0 C.toArray.size by rw [HCs.out]; exact there_newK (by rw [size_zsp]; exact Nat.le_refl _))
  clear hC
  go_wp2_with (refine wpList_store_mid rfl 59 (.tmp 5) (.tmp 9) rfl w1.heap.size 0 C.toArray rfl rfl TS.out HI.out HCo.out ?_)
  obtain ⟨b, hb⟩ : ∃ b, b = w1.heap.size := ⟨_, rfl⟩
  have B2 : Bel w1 ((w1.alloc (.cells Tryd.zeroCells59 59)).setCells w1.heap.size 0 C) := Kep.bel ((Bel.refl w1).alloc _) (kep_setCellsK _ _ _ _) (fun i hi => by rw [hi]; exact Nat.le_refl _)
  have S2 : Sp ((w1.alloc (.cells Tryd.zeroCells59 59)).setCells w1.heap.size 0 C) b 59 [] zero 0 zero136 (0 : Nat) (([] : List Int).length : Nat) := by
    refine ⟨?_, len_zero, by simp⟩
    rw [hb, List.nil_append]
    have := Blk.whole (vs := C) (Blk.new w1 Tryd.zeroCells59 59) (by rw [HCl.out]; exact size_zsp)
    rw [HC.out] at this ⊢
    exact this
  obtain ⟨w2, hw2⟩ : ∃ w2, (w1.alloc (.cells Tryd.zeroCells59 59)).setCells w1.heap.size 0 C = w2 := ⟨_, rfl⟩
  rw [hw2] at B2 S2 ⊢
  rw [← hb]
  have hbs : b < w2.heap.size := S2.blk.lt
  have H2 := Lib.hid (H1.out.trans B2)
  have hbw : w.heap.size ≤ b := by rw [hb]; exact Below.size H1.out
  have hbh : h < b := by
    have hs := Below.size H1.out
    have := TH1.out 0 (by omega)
    obtain ⟨v, hv⟩ := Option.isSome_iff_exists.1 this.1
    have := World.block_lt_of_cell? w1 _ hv
    rw [hb]
    exact this
  have TH2 := Lib.hid (there_bel TH1.out B2)
  obtain ⟨K1, hK1⟩ : ∃ K1, w2.alloc (.cells #[.int .u8 kd] 5) = K1 := ⟨_, rfl⟩
  have BK : Bel w2 K1 := by rw [← hK1]; exact (Bel.refl w2).alloc _
  have SL1 : Sl K1 (some ⟨w2.heap.size, 0, none⟩) 1 1 [kd] := by rw [← hK1]; exact sl_lit w2 [kd]
  have TK := Lib.hid (take b 59 [] zero 0 zero136 0 [] (some ⟨w2.heap.size, 0, none⟩) 1 1 [kd] K1 (⟨S2.blk.bel BK, S2.la, S2.lb⟩) hd_nil SL1.ints (by omega) (by unfold maxLen; omega) (fun z hz => by simp at hz; subst hz; exact ⟨k0, k1⟩) (fun _ x hx => by cases hx; show w2.heap.size ≠ b; omega) (HT.out.bel (H2.out.trans BK)) (by omega) (by simp))
  have HBK := Lib.hid BK
  have HK1 := Lib.hid hK1
  clear hw2 B2 S2 TS HI HCo HCs HCl HC hb TH1 H1 BK SL1 hK1
  go_wp2_with fail
  rw [HK1.out]
  refine (TK.out).mono ?_
  rintro e w3 ⟨rfl, ⟨A', r', bs', c', hs, hh⟩, hk⟩
  have J3 := Lib.hid (show ∃ A' r' bs' c', Sp w3 b 59 [] A' r' bs' (c' : Nat) ((joinB kd zss 0).length : Nat) ∧ Hd (joinB kd zss 0) A' bs' c' from ⟨A', r', bs', c', hs, hh⟩)
  have K3 := Lib.hid ((Kep.of_bel HBK.out).trans hk)
  clear hs hh hk HBK HK1 TK
  go_wp2_with fail
  go_loopw [15] (fun i wr => ∃ k : Nat, i = .int .i64 k ∧ k ≤ n ∧ (∃ A' r' bs' c', Sp wr b 59 [] A' r' bs' (c' : Nat) ((joinB kd zss k).length : Nat) ∧ Hd (joinB kd zss k) A' bs' c') ∧ Kep (fun i => i = b) w2 wr) (fun i _ => n - (intOf i).toNat)
  case atStart => exact ⟨0, rfl, Nat.zero_le _, J3.out, K3.out⟩
  case round =>
    obtain ⟨k, rfl, hk, ⟨A', r', bs', c', hs, hh⟩, hkep⟩ := hrel
    have HS := Lib.hid hs
    have HD := Lib.hid hh
    have HK := Lib.hid hkep
    have HW := Lib.hid (Kep.bel H2.out hkep (fun i hi => by rw [hi]; exact hbw))
    by_cases hlt : k < n
    · obtain ⟨lb, lo, rfl, hlb, hlc⟩ := HL.out.2 (by omega)
      obtain ⟨P, m, kk, hc, ho⟩ := hlc k hlt
      have cl : wr.cell? ⟨lb, lo + k, none⟩ = some (.slice P m kk) := (Below.cell (p := ⟨lb, lo + k, none⟩) HW.out hlb).trans hc
      obtain ⟨Z, hZ⟩ : ∃ Z, Z = zss.getD k [] := ⟨_, rfl⟩
      have hml : Z.length = m := by rw [hZ]; exact ho.sl.len
      have hts : tot zss k + m ≤ 1000000 := by
        have h1 : tot zss (k + 1) ≤ tot zss n := tot_mono zss (by omega)
        have h2 : tot zss (k + 1) = tot zss k + (zss.getD k []).length := rfl
        rw [← hZ, hml] at h2
        omega
      have hJl := joinB_len kd zss k
      obtain ⟨x, hx⟩ : ∃ x : Wd, x = BitVec.ofInt 64 (m : Int) := ⟨_, rfl⟩
      have HX := Lib.hid (show (m : Int) = U x by rw [hx, U_nat (by omega)])
      have JN := Lib.hid (show joinB kd zss (k + 1) = (joinB kd zss k ++ bytesOf x) ++ Z by
        show (joinB kd zss k ++ bytesOf (BitVec.ofInt 64 ((zss.getD k []).length : Int))) ++ zss.getD k [] = _
        rw [← hZ, hml, hx])
      have SPL := Lib.hid (fun W => split x W)
      have ON := Lib.hid (show One w P m kk Z by rw [hZ]; exact ho)
      have hJ : (joinB kd zss k).length ≤ 2000000 := by omega
      clear hs hh hkep hlc hc ho hZ hx hJl
      have wm : IntKind.u64.wrap (m : Int) = m := IntWalk.u64_in _ ⟨by omega, by omega⟩
      go_wp2_with fail
      rw [HX.out]
      refine (SPL.out _).mono ?_
      rintro e w5 ⟨rfl, h5⟩
      have H5 : Bel wr w5 := h5
      clear h5 cl
      obtain ⟨Y, hY⟩ : ∃ Y, Y = (bytesOf x).map B8 := ⟨_, rfl⟩
      have HYl := Lib.hid (show Y.length = 8 by rw [hY, List.length_map, len_bytesOf])
      have YS := Lib.hid (show Y.toArray.size = Y.length from List.size_toArray)
      have YI := Lib.hid (show (Tryd.prog.info? 76).map (·.size) = some Y.toArray.size by rw [YS.out, HYl.out]; exact info_8)
      have YO := Lib.hid (all_oneCell_toArray (cs := Y) (by rw [hY]; exact ints_b8 _))
      have TY := Lib.hid (show (w5.alloc (.cells #[.int .u8 0, .int .u8 0, .int .u8 0, .int .u8 0, .int .u8 0, .int .u8 0, .int .u8 0, .int .u8 0] 76)).there w5.heap.size 0 Y.toArray.size by
        rw [YS.out, HYl.out]; exact there_newK (by decide))
      have HY := Lib.hid hY
      rw [← hY]
      clear hY
      go_wp2_with (refine wpList_store_mid rfl 76 (.tmp 8) (.tmp 22) rfl w5.heap.size 0 Y.toArray rfl rfl TY.out YI.out YO.out ?_)
      obtain ⟨w6, hw6⟩ : ∃ w6, (w5.alloc (.cells #[.int .u8 0, .int .u8 0, .int .u8 0, .int .u8 0, .int .u8 0, .int .u8 0, .int .u8 0, .int .u8 0] 76)).setCells w5.heap.size 0 Y = w6 := ⟨_, rfl⟩
      have B6 : Bel wr w6 := by
        rw [← hw6]
        exact H5.trans (Kep.bel ((Bel.refl w5).alloc _) (kep_setCellsK w5.heap.size Y 0 _) (fun i hi => by rw [hi]; exact Nat.le_refl _))
      have R6 : w6.rangeAt w5.heap.size 0 Y := by
        rw [← hw6]
        exact World.rangeAt_setCells_same _ _ _ _ (by have e := YS.out; have e2 := TY.out; rw [e] at e2; exact e2)
      have h6s : w5.heap.size < w6.heap.size := by rw [← hw6, size_setCells]; simp
      rw [hw6]
      have hb5 : b < w5.heap.size := Nat.lt_of_lt_of_le HS.out.blk.lt (Below.size H5)
      obtain ⟨yb, hyb⟩ : ∃ yb, yb = w5.heap.size := ⟨_, rfl⟩
      rw [← hyb] at R6 h6s hb5 ⊢
      clear hw6 hyb TY
      have I6 : Ints .u8 w6 (some ⟨yb, 0, none⟩) 8 (bytesOf x) := ⟨len_bytesOf x, fun _ => ⟨yb, 0, rfl, h6s, fun i hi => by
        have hl8 := len_bytesOf x
        have h1 := R6 i (.int .u8 ((bytesOf x).getD i 0)) (by rw [HY.out, List.getElem?_map, List.getD_eq_getElem?_getD, List.getElem?_eq_getElem (by omega)]; rfl)
        exact h1⟩⟩
      have TK1 := Lib.hid (take b 59 [] A' r' bs' c' (joinB kd zss k) (some ⟨yb, 0, none⟩) 8 8 (bytesOf x) w6 ⟨HS.out.blk.bel B6, HS.out.la, HS.out.lb⟩ HD.out I6 (by omega) (by unfold maxLen; omega) (by_bytesOf x) (fun _ y hy => by cases hy; show yb ≠ b; omega) (HT.out.bel (HW.out.trans B6)) (by omega) (by omega))
      have HB6 := Lib.hid B6
      clear R6 I6 H5 B6
      go_wp2_with fail
      refine (TK1.out).mono ?_
      rintro e w7 ⟨rfl, ⟨A2, r2, bs2, c2, hs2, hh2⟩, hk2⟩
      have B7 : Bel w w7 := Kep.bel (HW.out.trans HB6.out) hk2 (fun i hi => by rw [hi]; exact hbw)
      have TK2 := Lib.hid (take b 59 [] A2 r2 bs2 c2 (joinB kd zss k ++ bytesOf x) P m kk Z w7 hs2 hh2 (ON.out.bel B7).sl.ints ON.out.sl.cap ON.out.cmax ON.out.by_ (fun h0 y hy => by
        obtain ⟨pb, po, e, hp, _⟩ := ON.out.sl.ints.2 h0
        rw [e] at hy
        cases hy
        show pb ≠ b
        omega) (HT.out.bel B7) (by omega) (by rw [List.length_append, len_bytesOf]; omega))
      have K7 := Lib.hid ((HK.out.trans (Kep.of_bel HB6.out)).trans hk2)
      clear hs2 hh2 hk2 B7 TK1
      go_wp2_with fail
      refine (TK2.out).mono ?_
      rintro e w8 ⟨rfl, ⟨A3, r3, bs3, c3, hs3, hh3⟩, hk3⟩
      rw [← JN.out] at hs3 hh3
      have J8 := Lib.hid (show ∃ A' r' bs' c', Sp w8 b 59 [] A' r' bs' (c' : Nat) ((joinB kd zss (k + 1)).length : Nat) ∧ Hd (joinB kd zss (k + 1)) A' bs' c' from ⟨A3, r3, bs3, c3, hs3, hh3⟩)
      have K8 := Lib.hid (K7.out.trans hk3)
      clear hs3 hh3 hk3 TK2 K7
      go_wp2_with fail
      go_roundw
      case rel => exact ⟨k + 1, by go_num, by omega, J8.out, K8.out⟩
      case measure => simp [intOf] <;> omega
    · obtain rfl : k = n := by omega
      have TH3 := Lib.hid (there_kep TH2.out hkep (by omega))
      obtain ⟨D, hD⟩ : ∃ D, D = spCells A' r' bs' (c' : Nat) ((joinB kd zss k).length : Nat) := ⟨_, rfl⟩
      have HDl := Lib.hid (show (Tryd.prog.info? 59).map (·.size) = some D.length by rw [hD, len_sp hs.la hs.lb]; exact info_sp)
      have RD := Lib.hid (show wr.rangeAt b 0 D by rw [hD]; exact hs.range)
      have hA' := hs.la
      have SM := Lib.hid (show Calls Tryd.prog 40 #[.agg D.toArray] wr fun e w' => e = .returned (hsV (sumOf (joinB kd zss k))) ∧ Bel wr w' by
        rw [hD]; exact sum A' r' bs' c' (joinB kd zss k) ((joinB kd zss k).length : Nat) wr hA' hh (HT.out.bel HW.out))
      clear hs hh hkep hD HS HD HK
      go_wp2_with (refine wpList_load_mid rfl 59 (.tmp 5) rfl b 0 rfl D _ RD.out Tryd.underlying59 rfl HDl.out ?_)
      refine (SM.out).mono ?_
      rintro e w4 ⟨rfl, h4⟩
      obtain ⟨Y, hY⟩ : ∃ Y, Y = (sumOf (joinB kd zss k)).map B8 := ⟨_, rfl⟩
      rw [show hsV (sumOf (joinB kd zss k)) = .agg Y.toArray by rw [hY]]
      have HYl := Lib.hid (show Y.length = 32 by rw [hY, List.length_map]; exact len_hashOf _)
      have HYs := Lib.hid (show Y.toArray.size = 32 by rw [List.size_toArray]; exact HYl.out)
      have HYo := Lib.hid (all_oneCell_toArray (cs := Y) (by rw [hY]; exact ints_b8 _))
      have HYi := Lib.hid (show (Tryd.prog.info? 31).map (·.size) = some Y.toArray.size by rw [HYs.out]; exact info_hash)
      have TH4 := Lib.hid (show w4.there h 0 Y.toArray.size by rw [HYs.out]; exact there_bel TH3.out h4)
      have H4 := Lib.hid (HW.out.trans h4)
      have HYY := Lib.hid hY
      clear h4 hY SM RD
      rw [← HH.out]
      go_wp2_with (refine wpList_store_mid rfl 31 (.tmp 4) (.tmp 29) rfl h 0 Y.toArray rfl rfl TH4.out HYi.out HYo.out ?_)
      have RE : (w4.setCells h 0 Y).rangeAt h 0 Y := World.rangeAt_setCells_same _ _ _ _ (by have := TH4.out; rw [HYs.out] at this; rw [HYl.out]; exact this)
      refine bodyPost_ret (results_c1 Tryd.results18 _ _ ⟨h, 0, none⟩ _ rfl (run_loadVar_mid (P := Tryd.prog) _ h 0 31 Y _ RE Tryd.underlying31 rfl (by rw [HYl.out]; exact info_hash))) rfl ⟨by rw [HYY.out], ?_⟩
      exact Kep.bel H4.out (kep_setCellsK h Y 0 w4) (fun i hi => by rw [hi, HH.out]; exact Nat.le_refl _)
end Kk
end Go.Proofs.YtaniijpppmipbaaDoor
