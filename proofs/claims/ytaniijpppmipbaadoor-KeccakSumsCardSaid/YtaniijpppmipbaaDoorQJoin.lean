/-
  What the reference's Join answers: the hash of a kind and of what stands together. Condition: not many bytes.
-/
import Derived.Test.YtaniijpppmipbaaDoorQSum
import Derived.Test.YtaniijpppmipbaaDoorKApp
import Derived.Test.YtaniijpppmipbaaDoorKJoin
namespace Go.Proofs.YtaniijpppmipbaaDoor
open Go.RowKit Go.Shelf
set_option linter.unusedVariables false
namespace Kk

theorem joinB_by {w : World} {A : Option Addr} {n : Nat} {zss : List (List Int)} {kd : Int} (h : Lst w A n zss) (k0 : 0 ≤ kd) (k1 : kd ≤ 255) : ∀ k, k ≤ n → By (joinB kd zss k)
  | 0, _ => fun z hz => by
    obtain rfl : z = kd := by simpa [joinB] using hz
    exact ⟨k0, k1⟩
  | k + 1, hk => by
    obtain ⟨b, o, _, _, hc⟩ := h.2 (by omega)
    obtain ⟨P, m, kk, _, h2⟩ := hc k (by omega)
    exact ((joinB_by h k0 k1 k (by omega)).append (by_bytesOf _)).append h2.by_

set_option maxRecDepth 100000 in
set_option maxHeartbeats 4000000 in
theorem refJoin (kd : Int) (A : Option Addr) (n c : Nat) (zss : List (List Int)) (w : World) (hL : Lst w A n zss) (k0 : 0 ≤ kd) (k1 : kd ≤ 255) (ht : tot zss n ≤ 1000000) (hn : n ≤ 1000) :
    Calls Tryd.prog 19 #[.int .u8 kd, .slice A n c] w fun e w' => e = .returned (hsV (sumOf (joinB kd zss n))) ∧ Bel w w' := by
  have HL := Lib.hid hL
  obtain ⟨h, hh⟩ : ∃ h, h = w.heap.size := ⟨_, rfl⟩
  obtain ⟨w1, hw1⟩ : ∃ w1, w.alloc Z32h = w1 := ⟨_, rfl⟩
  have TH := Lib.hid (show w1.there h 0 32 by rw [← hw1, hh]; exact there_newK (by decide))
  have HB := Lib.hid (show Bel w w1 by rw [← hw1]; exact (Bel.refl w).alloc _)
  have HS1 := Lib.hid (show w1.heap.size = h + 1 by rw [← hw1, hh]; simp)
  have OW := Lib.hid (show (w1.alloc (.cells #[.int .u8 kd] 5)).ownsRow w1.heap.size 5 1 (.slice (some ⟨w1.heap.size, 0, none⟩) 1 1) 1 ((joinB kd zss 0).map (Value.int .u8)) from
    World.ownsRow_lit w1 #[.int .u8 kd] 1 (Nat.le_refl _) (by unfold maxLen; omega) rfl)
  have HW1 := Lib.hid hw1
  have HH := Lib.hid hh
  clear hL hw1 hh
  go_enter Tryd.func19, Tryd.ntmps19
  go_upto_region 1 with fail
  rw [HW1.out, ← HH.out]
  go_wp2_with fail
  go_loopw [5, 6] (fun v i wr => ∃ k : Nat, i = .int .i64 k ∧ k ≤ n ∧ wr.ownsRow w1.heap.size 5 1 v (1 + 8 * k + tot zss k) ((joinB kd zss k).map (Value.int .u8)) ∧ Bel w1 wr) (fun _ i _ => n - (intOf i).toNat)
  case atStart => exact ⟨0, rfl, Nat.zero_le _, OW.out, (Bel.refl w1).alloc _⟩
  case round =>
    obtain ⟨k, rfl, hk, hown, hb⟩ := hrel
    by_cases hlt : k < n
    · obtain ⟨lb, lo, rfl, hlb, hlc⟩ := HL.out.2 (by omega)
      obtain ⟨P, m, kk, hc, ho⟩ := hlc k hlt
      obtain ⟨Z, hZ⟩ : ∃ Z, Z = zss.getD k [] := ⟨_, rfl⟩
      have hml : Z.length = m := by rw [hZ]; exact ho.sl.len
      have hts : tot zss k + m ≤ 1000000 := by
        have h1 : tot zss (k + 1) ≤ tot zss n := tot_mono zss (by omega)
        have h2 : tot zss (k + 1) = tot zss k + (zss.getD k []).length := rfl
        rw [← hZ, hml] at h2
        omega
      have TS := Lib.hid (show tot zss (k + 1) = tot zss k + m by rw [← hml, hZ]; rfl)
      obtain ⟨x, hx⟩ : ∃ x : Wd, x = BitVec.ofInt 64 (m : Int) := ⟨_, rfl⟩
      have HX := (show (m : Int) = U x by rw [hx, U_nat (by omega)])
      have JN := Lib.hid (show joinB kd zss (k + 1) = (joinB kd zss k ++ bytesOf x) ++ Z by
        show (joinB kd zss k ++ bytesOf (BitVec.ofInt 64 ((zss.getD k []).length : Int))) ++ zss.getD k [] = _
        rw [← hZ, hml, hx])
      have CB := Lib.hid (show ∀ W, Calls Tryd.prog 37 #[.int .u64 (m : Int)] W fun e w' => ∃ v, e = .returned v ∧ Fresh W w' v (bytesOf x) from fun W => by rw [HX]; exact refBytes x W)
      have HC := Lib.hid (show ∀ W, Bel w1 W → W.cell? ⟨lb, lo + k, none⟩ = some (.slice P m kk) from fun W hW => (Below.cell (p := ⟨lb, lo + k, none⟩) (HB.out.trans hW) hlb).trans hc)
      have ON := Lib.hid (show ∀ W, Bel w1 W → Sl W P m kk Z from fun W hW => by rw [hZ]; exact ho.sl.bel (HB.out.trans hW))
      have ROW := Lib.hid hown
      have b0 : Bel w1 wr.drew := hb.trans (Bel.refl wr).drew
      have HBW := Lib.hid hb
      have c0 := HC.out wr hb
      have S0 : wr.drew.cell? ⟨lb, lo + k, none⟩ = some (.slice P m kk) ∧ Bel w1 wr.drew := ⟨HC.out _ b0, b0⟩
      have hL8 := len_bytesOf x
      have HL8 := Lib.hid hL8
      have wm : IntKind.u64.wrap (m : Int) = m := IntWalk.u64_in _ ⟨by omega, by omega⟩
      clear hlc hc ho hZ hx HX hown hb hL8
      go_wp2
      go_region_held3 (fun w' => w'.cell? ⟨lb, lo + k, none⟩ = some (.slice P m kk) ∧ Bel w1 w') (first | assumption | exact ⟨HC.out _ (by assumption), by assumption⟩)
        (first
          | (go_at_call 37; refine (CB.out _).mono ?_; rintro e w9 ⟨vb, rfl, fb⟩; have b9 : Bel w1 w9 := b0.trans fb.2; obtain ⟨Ab, cb, rfl, sb⟩ := fb.sl)
          | (refine step_append_sl rfl _ _ rfl w1.heap.size _ _ _ rfl h1 P m kk Z rfl (ON.out _ b10) (by have := HL8.out; omega) (Below.size b10) ?_; intro v2 w11 h2 g2; have b11 : Bel w1 w11 := Bel.grown b10 g2 (fun j hj => (h1.lt j hj).1))
          | (refine step_append_sl rfl _ _ rfl w1.heap.size _ _ _ rfl (owns_bel ROW.out ((Bel.refl wr).drew.trans fb.2)) _ _ _ _ rfl sb (by rw [HL8.out]; omega) (Below.size b9) ?_; intro v1 w10 h1 g1; have b10 : Bel w1 w10 := Bel.grown b9 g1 (fun j hj => (ROW.out.lt j hj).1)))
      have H2 := Lib.hid (show w11.ownsRow w1.heap.size 5 1 v2 (1 + 8 * (k + 1) + tot zss (k + 1)) ((joinB kd zss (k + 1)).map (Value.int .u8)) by
        rw [JN.out, List.map_append, List.map_append, TS.out, show 1 + 8 * (k + 1) + (tot zss k + m) = 1 + 8 * k + tot zss k + (bytesOf x).length + m by have := HL8.out; omega]
        exact h2)
      have HB11 := Lib.hid b11
      clear h1 h2 g1 g2 b10 b11 sb fb b9
      go_wp2
      go_roundw
      case rel => exact ⟨k + 1, by go_num, by omega, H2.out, HB11.out⟩
      case measure => simp [intOf] <;> omega
    · obtain rfl : k = n := by omega
      obtain ⟨Aa, ca, rfl, sl⟩ := sl_of_own hown
      have RS := Lib.hid (refSum Aa (1 + 8 * k + tot zss k) ca (joinB kd zss k) wr sl (joinB_by HL.out k0 k1 k (Nat.le_refl _)) (by omega))
      have HBW := Lib.hid hb
      clear hown sl hb
      go_wp2_with fail
      refine (RS.out).mono ?_
      rintro e w4 ⟨rfl, h4⟩
      obtain ⟨Y, hY⟩ : ∃ Y, Y = (sumOf (joinB kd zss k)).map B8 := ⟨_, rfl⟩
      have HYV := Lib.hid (show hsV (sumOf (joinB kd zss k)) = .agg Y.toArray by rw [hY])
      have HYl := Lib.hid (show Y.length = 32 by rw [hY, List.length_map]; exact len_hashOf _)
      have YS := Lib.hid (show Y.toArray.size = Y.length from List.size_toArray)
      have HYo := Lib.hid (all_oneCell_toArray (cs := Y) (by rw [hY]; exact ints_b8 _))
      have YI := Lib.hid (show (Tryd.prog.info? 31).map (·.size) = some Y.length by rw [HYl.out]; exact info_hash)
      have YI2 := Lib.hid (show (Tryd.prog.info? 31).map (·.size) = some Y.toArray.size by rw [YS.out]; exact YI.out)
      have T4 := Lib.hid (show w4.there h 0 Y.toArray.size by rw [YS.out, HYl.out]; exact there_bel (there_bel TH.out HBW.out) h4)
      have H4 := Lib.hid ((HB.out.trans HBW.out).trans h4)
      rw [HYV.out]
      clear hY h4 RS
      go_wp2_with (refine wpList_store_mid rfl 31 (.tmp 4) (.tmp 30) rfl h 0 Y.toArray rfl rfl T4.out YI2.out HYo.out ?_)
      have RE : (w4.setCells h 0 Y).rangeAt h 0 Y := World.rangeAt_setCells_same _ _ _ _ (by have e := YS.out; have e2 := T4.out; rw [e] at e2; exact e2)
      refine bodyPost_ret (results_c1 Tryd.results19 _ _ ⟨h, 0, none⟩ _ rfl (run_loadVar_mid (P := Tryd.prog) _ h 0 31 Y _ RE Tryd.underlying31 rfl YI.out)) rfl ⟨by rw [HYV.out], ?_⟩
      exact Kep.bel H4.out (kep_setCellsK h Y 0 w4) (fun i hi => by rw [hi, HH.out]; exact Nat.le_refl _)
end Kk
end Go.Proofs.YtaniijpppmipbaaDoor
