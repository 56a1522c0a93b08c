/-
  What the reference's constants answers: the 24 keys of the rounds. No condition.
-/
import Derived.Test.YtaniijpppmipbaaDoorKSum2
namespace Go.Proofs.YtaniijpppmipbaaDoor
open Go.RowKit Go.Shelf
set_option linter.unusedVariables false
namespace Kk

theorem reg_xor_i {m : Int} (h0 : 0 ≤ m) (h1 : m < 256) : bits .xor .i64 m 113 = ((m.toNat ^^^ 113 : Nat) : Int) := by
  obtain ⟨n, rfl⟩ := Int.eq_ofNat_of_zero_le h0
  have hn : n < 256 := by omega
  have : ∀ m : Fin 256, bits .xor .i64 ((m.1 : Nat) : Int) 113 = ((m.1 ^^^ 113 : Nat) : Int) := by decide +kernel
  exact this ⟨n, hn⟩
theorem set_or0 {A : List Wd} (i : Nat) (p : Nat) (h : i < A.length) : A.set i (g A i ||| BitVec.ofInt 64 0 <<< p) = A := by
  have e : BitVec.ofInt 64 0 <<< p = 0 := by simp
  rw [e]
  apply List.ext_getElem (by simp)
  intro k h1 h2
  rw [List.getElem_set]
  by_cases hk : i = k
  · subst hk
    rw [if_pos rfl]
    simp [g, List.getElem?_eq_getElem h2]
  · rw [if_neg hk]
theorem ks_next {n r j : Nat} (hn : n = 7 * r + j) (hj : j < 7) (hr : r < 24) :
    ks (regBits (n + 1)) = if reg n % 2 = 1 then (ks (regBits n)).set r (g (ks (regBits n)) r ||| BitVec.ofInt 64 1 <<< (2 ^ j - 1)) else ks (regBits n) := by
  rw [regBits_succ, ks_snoc, regBits_len, show n / 7 = r by omega, show n % 7 = j by omega]
  unfold regBit
  by_cases h : reg n % 2 = 1
  · rw [if_pos h, h]; rfl
  · rw [if_neg h, show reg n % 2 = 0 by omega]
    exact set_or0 r _ (by rw [ks_len]; exact hr)
theorem or_one (x : Wd) (p : Nat) : bits .or .u64 (U x) (IntKind.u64.wrap (2 ^ p)) = U (x ||| BitVec.ofInt 64 1 <<< p) := by
  have h := or_shl x 1 p
  rwa [Int.one_mul] at h
theorem pow7u {m : Nat} (h : m < 7) : IntKind.u64.wrap ((2 : Int) ^ m) = 2 ^ m ∧ IntKind.u64.wrap ((2 : Int) ^ m - 1) = ((2 ^ m - 1 : Nat) : Int) ∧ 2 ^ m - 1 ≤ 63 := by
  match m, h with
  | 0, _ => decide
  | 1, _ => decide
  | 2, _ => decide
  | 3, _ => decide
  | 4, _ => decide
  | 5, _ => decide
  | 6, _ => decide

set_option maxRecDepth 100000 in
set_option maxHeartbeats 4000000 in
theorem refKeys (w : World) :
    Calls Tryd.prog 46 #[] w fun e w' => e = .returned (.agg (K.map V).toArray) ∧ Bel w w' := by
  obtain ⟨h, hh⟩ : ∃ h, h = w.heap.size := ⟨_, rfl⟩
  obtain ⟨w1, hw1⟩ : ∃ w1, w1 = (w.alloc (.cells Z24 52)).alloc (.cells Z24 52) := ⟨_, rfl⟩
  have B1 : Bel w w1 := by rw [hw1]; exact ((Bel.refl w).alloc _).alloc _
  have N1 : Blk w1 (h + 1) Z24 52 := by
    rw [hw1, hh]
    have := Blk.new (w.alloc (.cells Z24 52)) Z24 52
    rwa [World.size_alloc] at this
  have N0 : Blk w1 h Z24 52 := by
    rw [hw1, hh]
    exact (Blk.new w Z24 52).alloc _
  have HW1 := Lib.hid (show (w.alloc (.cells Z24 52)).alloc (.cells Z24 52) = w1 from hw1.symm)
  have HH := Lib.hid hh
  have HN1 := Lib.hid (show Blk w1 (h + 1) ((ks (regBits (7 * 0))).map V).toArray 52 from N1)
  have HN0 := Lib.hid N0
  have HB1 := Lib.hid B1
  clear hw1 hh B1 N1 N0
  go_enter Tryd.func46, Tryd.ntmps46
  go_wp2_with fail
  rw [HW1.out, ← HH.out]
  go_loopw [2, 3] (fun s i wr => ∃ r : Nat, i = .int .i64 r ∧ r ≤ 24 ∧ s = .int .i64 (reg (7 * r) : Nat) ∧ Blk wr (h + 1) ((ks (regBits (7 * r))).map V).toArray 52 ∧ Kep (fun i => i = h + 1) w1 wr) (fun _ i _ => 24 - (intOf i).toNat)
  case atStart => exact ⟨0, rfl, by omega, rfl, HN1.out, Kep.refl _ _⟩
  case round =>
    obtain ⟨r, rfl, hr, rfl, hs, hk⟩ := hrel
    have HS := Lib.hid hs
    have HK := Lib.hid hk
    by_cases hlt : r < 24
    · clear hs hk
      obtain ⟨q0, hq0⟩ : ∃ q0, reg (7 * r) = q0 := ⟨_, rfl⟩
      rw [hq0]
      have HQ0 := Lib.hid hq0
      clear hq0
      go_wp2
      rw [show decide ((r : Int) < 24) = true from decide_eq_true (by omega)]
      go_loopw [2, 4] (fun s i wr => ∃ j q : Nat, i = .int .i64 j ∧ j ≤ 7 ∧ s = .int .i64 q ∧ reg (7 * r + j) = q ∧ Blk wr (h + 1) ((ks (regBits (7 * r + j))).map V).toArray 52 ∧ Kep (fun i => i = h + 1) w1 wr) (fun _ i _ => 7 - (intOf i).toNat)
      case atStart => exact ⟨0, q0, rfl, by omega, rfl, HQ0.out, HS.out, HK.out⟩
      case round =>
        obtain ⟨j, q, rfl, hj, rfl, hq, hs, hk⟩ := hrel
        have HS := Lib.hid hs
        have HK := Lib.hid hk
        by_cases hlj : j < 7
        · have hq2 : q < 256 := by rw [← hq]; exact reg_lt _
          have HN := Lib.hid (ks_next (n := 7 * r + j) rfl hlj hlt)
          have HG := Lib.hid (show reg (7 * r + j + 1) = if 256 ≤ 2 * q then (2 * q) % 256 ^^^ 113 else 2 * q by rw [← hq]; rfl)
          have HQ := Lib.hid hq
          have k0 := hs.cell r (key_at (ks_len _) hlt)
          have f0 := hs.frozen r
          have ho := or_one (g (ks (regBits (7 * r + j))) r)
          obtain ⟨p1, p2, p3⟩ := pow7u hlj
          obtain ⟨p, hp⟩ : ∃ p, 2 ^ j - 1 = p := ⟨_, rfl⟩
          rw [hp] at p2 p3 HN
          have ho := ho p
          clear hp
          have p64 : (p : Int) ≤ 63 := by omega
          clear hs hk hq
          have w2 : IntKind.i64.wrap (2 * (q : Int)) = 2 * q := IntWalk.i64_in _ (by omega)
          have hx := reg_xor_i (m := (((2 * q) % 256 : Nat) : Int)) (by omega) (by omega)
          rw [Int.toNat_natCast] at hx
          have m1 : (2 * (q : Int)).tmod 256 = (((2 * q) % 256 : Nat) : Int) := by
            rw [Int.tmod_eq_emod_of_nonneg (by omega)]; omega
          have hr24 : (r : Int) < 24 := by omega
          by_cases hb : q % 2 = 1
          · have m2 : ((q : Int)).tmod 2 = 1 := by rw [Int.tmod_eq_emod_of_nonneg (by omega)]; omega
            by_cases hgr : 256 ≤ 2 * q
            · go_wp2
              go_region
              go_wp2
              go_roundw
              case rel =>
                refine ⟨j + 1, 2 * q % 256 ^^^ 113, by go_num, by omega, by rw [← hx]; congr 2, ?_, ?_, ?_⟩
                · have hg := HG.out; rw [if_pos hgr] at hg; exact hg
                · have hs := ((HS.out.set r (.int .u64 (U (g (ks (regBits (7 * r + j))) r ||| BitVec.ofInt 64 1 <<< p)))).bel (Bel.refl _).drew)
                  have hn := HN.out
                  rw [HQ.out, if_pos hb] at hn
                  rw [key_set, ← hn] at hs
                  exact hs
                · exact (HK.out.set_self _ _).drew
              case measure => simp [intOf] <;> omega
            · go_wp2
              go_region
              go_wp2
              go_roundw
              case rel =>
                refine ⟨j + 1, 2 * q, by go_num, by omega, by simp, ?_, ?_, ?_⟩
                · have hg := HG.out; rw [if_neg hgr] at hg; exact hg
                · have hs := ((HS.out.set r (.int .u64 (U (g (ks (regBits (7 * r + j))) r ||| BitVec.ofInt 64 1 <<< p)))).bel (Bel.refl _).drew)
                  have hn := HN.out
                  rw [HQ.out, if_pos hb] at hn
                  rw [key_set, ← hn] at hs
                  exact hs
                · exact (HK.out.set_self _ _).drew
              case measure => simp [intOf] <;> omega
          · have m2 : ((q : Int)).tmod 2 = 0 := by rw [Int.tmod_eq_emod_of_nonneg (by omega)]; omega
            by_cases hgr : 256 ≤ 2 * q
            · go_wp2
              go_roundw
              case rel =>
                refine ⟨j + 1, 2 * q % 256 ^^^ 113, by go_num, by omega, by rw [← hx]; congr 2, ?_, ?_, HK.out⟩
                · have hg := HG.out; rw [if_pos hgr] at hg; exact hg
                · have hn := HN.out
                  rw [HQ.out, if_neg hb] at hn
                  have hs := HS.out
                  rw [← hn] at hs
                  exact hs
              case measure => simp [intOf] <;> omega
            · go_wp2
              go_roundw
              case rel =>
                refine ⟨j + 1, 2 * q, by go_num, by omega, by simp, ?_, ?_, HK.out⟩
                · have hg := HG.out; rw [if_neg hgr] at hg; exact hg
                · have hn := HN.out
                  rw [HQ.out, if_neg hb] at hn
                  have hs := HS.out
                  rw [← hn] at hs
                  exact hs
              case measure => simp [intOf] <;> omega
        · obtain rfl : j = 7 := by omega
          have HQ := Lib.hid hq
          clear hs hk hq
          go_wp2
          go_roundw
          case rel => exact ⟨r + 1, by go_num, by omega, by rw [show 7 * (r + 1) = 7 * r + 7 by omega, HQ.out], HS.out, HK.out⟩
          case measure => simp [intOf] <;> omega
    · obtain rfl : r = 24 := by omega
      rw [show 7 * 24 = 168 from rfl, ks168] at hs
      obtain ⟨Q, hQ⟩ : ∃ Q, Q = K.map V := ⟨_, rfl⟩
      rw [← hQ] at hs
      have HQl := Lib.hid (show Q.length = 24 by rw [hQ]; rfl)
      have RQ := Lib.hid (blk_range hs)
      have QI := Lib.hid (show (Tryd.prog.info? 52).map (·.size) = some Q.length by rw [HQl.out]; kernel_rfl)
      have QI2 := Lib.hid (show (Tryd.prog.info? 52).map (·.size) = some Q.toArray.size by rw [List.size_toArray]; exact QI.out)
      have QO := Lib.hid (all_oneCell_toArray (cs := Q) (by rw [hQ]; exact ints1 _))
      have TQ := Lib.hid (show wr.there h 0 Q.toArray.size by
        rw [List.size_toArray, HQl.out]
        exact (HN0.out.kep hk (by omega)).there 0 24 (by decide))
      have HQ := Lib.hid hQ
      have K2 := Lib.hid (Kep.bel HB1.out hk (fun i hi => by rw [hi, HH.out]; omega))
      clear hs hk HS HK hQ
      go_wp2_with (first | (refine wpList_load_mid rfl 52 (.tmp 1) rfl (h + 1) 0 rfl Q _ RQ.out Tryd.underlying52 rfl QI.out ?_) | (refine wpList_store_mid rfl 52 (.tmp 0) (.tmp 33) rfl h 0 Q.toArray rfl rfl TQ.out QI2.out QO.out ?_))
      have RE : (wr.setCells h 0 Q).rangeAt h 0 Q := World.rangeAt_setCells_same _ _ _ _ (by have := TQ.out; rw [List.size_toArray] at this; exact this)
      refine bodyPost_ret (results_c1 Tryd.results46 _ _ ⟨h, 0, none⟩ _ rfl (run_loadVar_mid (P := Tryd.prog) _ h 0 52 Q _ RE Tryd.underlying52 rfl QI.out)) rfl ⟨by rw [HQ.out], ?_⟩
      exact Kep.bel K2.out (kep_setCellsK h Q 0 wr) (fun i hi => by rw [hi, HH.out]; exact Nat.le_refl _)
end Kk
end Go.Proofs.YtaniijpppmipbaaDoor
