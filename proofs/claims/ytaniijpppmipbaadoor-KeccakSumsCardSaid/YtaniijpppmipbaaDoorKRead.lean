/-
  What Read answers in this program: the hash of a text. No condition.
-/
import Derived.Test.YtaniijpppmipbaaDoorKObj
import Derived.Test.YtaniijpppmipbaaDoorShelf
namespace Go.Proofs.YtaniijpppmipbaaDoor
open Go.RowKit Go.Shelf
set_option linter.unusedVariables false
namespace Kk

/-- The value of a digit; -1: it is none. -/
def dv (c : UInt8) : Int := Lib.indexByte digits.data.toList c
def dvs (s : ByteArray) (i : Nat) : Int := dv (s.data.toList.getD i 0)
theorem dv_bd (c : UInt8) : -1 ≤ dv c ∧ dv c < 16 := by
  have : ∀ m : Fin 256, -1 ≤ dv (UInt8.ofNat m.1) ∧ dv (UInt8.ofNat m.1) < 16 := by decide +kernel
  have h := this ⟨c.toNat, c.toNat_lt⟩
  simpa using h
theorem or4 {d e : Int} (d0 : 0 ≤ d) (d1 : d < 16) (e0 : 0 ≤ e) (e1 : e < 16) : bits .or .u8 (IntKind.u8.wrap (d * 16)) e = 16 * d + e := by
  obtain ⟨d, rfl⟩ := Int.eq_ofNat_of_zero_le d0
  obtain ⟨e, rfl⟩ := Int.eq_ofNat_of_zero_le e0
  have : ∀ m n : Fin 16, bits .or .u8 (IntKind.u8.wrap (((m.1 : Nat) : Int) * 16)) ((n.1 : Nat) : Int) = 16 * ((m.1 : Nat) : Int) + ((n.1 : Nat) : Int) := by decide +kernel
  exact this ⟨d, by omega⟩ ⟨e, by omega⟩
/-- The bytes behind k digits. -/
def rdE (ds : Nat → Int) (k i : Nat) : Int := if 2 * i + 1 < k then 16 * ds (2 * i) + ds (2 * i + 1) else if 2 * i < k then ds (2 * i) else 0
def rdB (ds : Nat → Int) (k : Nat) : List Int := (List.range 32).map (rdE ds k)
theorem rdB_len (ds : Nat → Int) (k : Nat) : (rdB ds k).length = 32 := by simp [rdB]
theorem rdB_at (ds : Nat → Int) (k : Nat) {i : Nat} (h : i < 32) : ((rdB ds k).map B8).toArray[i]? = some (.int .u8 (rdE ds k i)) := by
  rw [List.getElem?_toArray, List.getElem?_map, rdB, List.getElem?_map, List.getElem?_range h]; rfl
theorem rdB_set (ds : Nat → Int) {k : Nat} (h : k < 64) (z : Int) (hz : z = rdE ds (k + 1) (k / 2)) : ((rdB ds k).map B8).toArray.setIfInBounds (k / 2) (.int .u8 z) = ((rdB ds (k + 1)).map B8).toArray := by
  rw [List.setIfInBounds_toArray, show (Value.int .u8 z) = B8 z from rfl, ← List.map_set]
  congr 2
  subst hz
  apply List.ext_getElem (by simp [rdB])
  intro i h1 h2
  simp only [rdB, List.getElem_set, List.getElem_map, List.getElem_range]
  by_cases e : k / 2 = i
  · subst e; simp
  · rw [if_neg e]
    unfold rdE
    by_cases h3 : 2 * i + 1 < k
    · rw [if_pos h3, if_pos (by omega)]
    · rw [if_neg h3]
      by_cases h4 : 2 * i < k
      · omega
      · rw [if_neg h4, if_neg (by omega), if_neg (by omega)]
theorem rdE_step (ds : Nat → Int) (k : Nat) (h : ∀ i, i ≤ k → 0 ≤ ds i ∧ ds i < 16) : bits .or .u8 (IntKind.u8.wrap (rdE ds k (k / 2) * 16)) (ds k) = rdE ds (k + 1) (k / 2) := by
  obtain h2 | h2 : k % 2 = 0 ∨ k % 2 = 1 := by omega
  · have e : rdE ds k (k / 2) = 0 := by unfold rdE; rw [if_neg (by omega), if_neg (by omega)]
    have e2 : rdE ds (k + 1) (k / 2) = ds k := by unfold rdE; rw [if_neg (by omega), if_pos (by omega)]; congr 1; omega
    obtain ⟨a, b⟩ := h k (by omega)
    rw [e, e2, or4 (by decide) (by decide) a b]; omega
  · have e : rdE ds k (k / 2) = ds (2 * (k / 2)) := by unfold rdE; rw [if_neg (by omega), if_pos (by omega)]
    have e2 : rdE ds (k + 1) (k / 2) = 16 * ds (2 * (k / 2)) + ds k := by unfold rdE; rw [if_pos (by omega)]; congr 2; omega
    obtain ⟨a, b⟩ := h k (by omega)
    obtain ⟨a', b'⟩ := h (2 * (k / 2)) (by omega)
    rw [e, e2, or4 a' b' a b]

set_option maxRecDepth 100000 in
set_option maxHeartbeats 2000000 in
theorem read_len (s : ByteArray) (w : World) (hl : s.size ≠ 64) (hm : s.size ≤ 1000000000000) :
    Calls Tryd.prog 14 #[.string s] w fun e w' => e = .returned (.tuple #[.agg Z32l.toArray, .int .i64 5]) ∧ Bel w w' := by
  have hl' : ((s.size : Int) != 64) = true := by rw [bne_iff_ne]; omega
  obtain ⟨Y, hY⟩ : ∃ Y, Y = Z32l := ⟨_, rfl⟩
  have HYl := Lib.hid (show Y.length = 32 by rw [hY]; rfl)
  have HYs := Lib.hid (show Y.toArray.size = 32 by rw [hY]; rfl)
  have HYo := Lib.hid (all_oneCell_toArray (cs := Y) (by rw [hY]; exact ints_b8 (List.replicate 32 0)))
  have HYi := Lib.hid (show (Tryd.prog.info? 31).map (·.size) = some Y.toArray.size by rw [HYs.out]; exact info_hash)
  have TH := Lib.hid (show ((w.alloc (.cells Z32l.toArray 31)).alloc (.cells Z32l.toArray 31)).there w.heap.size 0 Y.toArray.size by rw [HYs.out]; exact World.there_alloc (there_newK (by decide)) _)
  have HB := Lib.hid (show Bel w ((w.alloc (.cells Z32l.toArray 31)).alloc (.cells Z32l.toArray 31)) from ((Bel.refl w).alloc _).alloc _)
  have HY := Lib.hid hY
  clear hY
  go_enter Tryd.func14, Tryd.ntmps14
  go_wp2_with (refine wpList_store_mid rfl 31 (.tmp 2) (.tmp 10) rfl w.heap.size 0 Y.toArray rfl (by rw [HY.out]; rfl) TH.out HYi.out HYo.out ?_)
  have RE : (((w.alloc (.cells Z32l.toArray 31)).alloc (.cells Z32l.toArray 31)).setCells w.heap.size 0 Y).rangeAt w.heap.size 0 Y := World.rangeAt_setCells_same _ _ _ _ (by have := TH.out; rw [HYs.out] at this; rw [HYl.out]; exact this)
  refine bodyPost_ret (results_ct Tryd.results14 _ _ ⟨w.heap.size, 0, none⟩ (.agg Y.toArray) (.int .i64 5) rfl rfl (run_loadVar_mid (P := Tryd.prog) _ w.heap.size 0 31 Y _ RE Tryd.underlying31 rfl (by rw [HYl.out]; exact info_hash))) rfl ⟨by rw [HY.out], ?_⟩
  exact Kep.bel HB.out (kep_setCellsK w.heap.size Y 0 _) (fun i hi => by rw [hi]; exact Nat.le_refl _)

theorem idx_str (s : ByteArray) (i : Nat) (hi : i < s.size) (w : World) : (Instr.index 9 (.string s) (.int .i64 (i : Int))).run Tryd.prog w = .ok (.int .u8 ((s.data.toList.getD i 0).toNat : Int)) w := by
  have hg : s[i]? = some (s.data.toList.getD i 0) := by
    rw [List.getD_eq_getElem?_getD, List.getElem?_eq_getElem (by simpa using hi)]
    simp [hi]
    rfl
  simp only [Instr.index, Sem.run_bind, run_underlying Tryd.underlying9, asIntOf, Sem.run_pure, Result.andThen_ok]
  simp [hg]
theorem hash_back (A : List Int) : Value.agg (A.map B8).toArray = hsV A := rfl

/-- What comes of a text of 64 signs. -/
def RdPost (s : ByteArray) (e : Ending) : Prop := ((∀ i, i < 64 → 0 ≤ dvs s i) ∧ e = .returned (.tuple #[hsV (rdB (dvs s) 64), .int .i64 0])) ∨ ((∃ i, i < 64 ∧ dvs s i < 0) ∧ e = .returned (.tuple #[.agg Z32l.toArray, .int .i64 5]))
theorem index_byte (c : UInt8) (w : World) : Calls Tryd.prog 34 #[.string digits, .int .u8 ((c.toNat : Nat) : Int)] w fun e w' => e = .returned (.int .i64 (dv c)) ∧ w = w' :=
  (Tryd.strings_IndexByte digits ((c.toNat : Nat) : Int) w).mono fun e w' h => ⟨by rw [h.1, Int.toNat_natCast, show c.toNat.toUInt8 = c from UInt8.ofNat_toNat]; rfl, h.2.symm⟩

set_option maxRecDepth 100000 in
set_option maxHeartbeats 4000000 in
theorem read_text (s : ByteArray) (w : World) (hl : s.size = 64) :
    Calls Tryd.prog 14 #[.string s] w fun e w' => RdPost s e ∧ Bel w w' := by
  obtain ⟨h, hh⟩ : ∃ h, h = w.heap.size := ⟨_, rfl⟩
  obtain ⟨W, hW⟩ : ∃ W, (w.alloc (.cells Z32l.toArray 31)).alloc (.cells Z32l.toArray 31) = W := ⟨_, rfl⟩
  have HW := Lib.hid hW
  have HH := Lib.hid hh
  have BW := Lib.hid (show Bel w W by rw [← hW]; exact ((Bel.refl w).alloc _).alloc _)
  have TH := Lib.hid (show W.there h 0 32 by rw [← hW, hh]; exact World.there_alloc (there_newK (by decide)) _)
  have B0 := Lib.hid (show Blk W (h + 1) ((rdB (dvs s) 0).map B8).toArray 31 by
    have := Blk.new (w.alloc (.cells Z32l.toArray 31)) Z32l.toArray 31
    rw [World.size_alloc, ← hh, hW] at this
    exact this)
  have SZ := Lib.hid hl
  have hl2 : (s.size : Int) = 64 := by omega
  obtain ⟨Y, hY⟩ : ∃ Y, Y = Z32l := ⟨_, rfl⟩
  have HYl := Lib.hid (show Y.length = 32 by rw [hY]; rfl)
  have HYs := Lib.hid (show Y.toArray.size = 32 by rw [hY]; rfl)
  have HYo := Lib.hid (all_oneCell_toArray (cs := Y) (by rw [hY]; exact ints_b8 (List.replicate 32 0)))
  have HYi := Lib.hid (show (Tryd.prog.info? 31).map (·.size) = some Y.toArray.size by rw [HYs.out]; exact info_hash)
  have HY := Lib.hid hY
  clear hW hh hY
  go_enter Tryd.func14, Tryd.ntmps14
  go_upto_region 4 with fail
  rw [HW.out, ← HH.out]
  go_wp2
  go_loopw [13] (fun i wr => ∃ k : Nat, i = .int .i64 k ∧ k ≤ 64 ∧ (∀ i, i < k → 0 ≤ dvs s i) ∧ Blk wr (h + 1) ((rdB (dvs s) k).map B8).toArray 31 ∧ Kep (fun i => i = h + 1) W wr) (fun i _ => 64 - (intOf i).toNat)
  case atStart => exact ⟨0, rfl, by omega, fun i hi => absurd hi (by omega), B0.out, Kep.refl _ _⟩
  case round =>
    obtain ⟨k, rfl, hk, hpos, hs, hkep⟩ := hrel
    have HS := Lib.hid hs
    have HK := Lib.hid hkep
    have HP := Lib.hid hpos
    by_cases hlt : k < 64
    · have ix := idx_str s k (by omega)
      have IB := Lib.hid (index_byte (s.data.toList.getD k 0))
      have DV := Lib.hid (show dv (s.data.toList.getD k 0) = dvs s k from rfl)
      obtain ⟨b0, b1⟩ := dv_bd (s.data.toList.getD k 0)
      have hlt' : (k : Int) < 64 := by omega
      have ST := Lib.hid (fun (hd : 0 ≤ dvs s k) => rdE_step (dvs s) k (fun i hi => by
        refine ⟨?_, (dv_bd _).2⟩
        rcases Nat.lt_or_ge i k with h3 | h3
        · exact hpos i h3
        · obtain rfl : i = k := by omega
          exact hd))
      have k0 := hs.cell (k / 2) (rdB_at (dvs s) k (by omega))
      have f0 := hs.frozen (k / 2)
      rw [DV.out] at b0 b1 IB
      generalize hc : s.data.toList.getD k 0 = c at *
      generalize hd : dvs s k = d at *
      have HD := Lib.hid hd
      clear hs hkep hpos hc hd
      go_wp2_with fail
      refine (IB.out _).mono ?_
      rintro e w' ⟨rfl, rfl⟩
      by_cases hneg : d < 0
      · have THR := Lib.hid (show wr.there h 0 Y.toArray.size by rw [HYs.out]; exact there_kep TH.out HK.out (by omega))
        go_wp2_with (refine wpList_store_mid rfl 31 (.tmp 2) (.tmp 22) rfl h 0 Y.toArray rfl (by rw [HY.out]; rfl) THR.out HYi.out HYo.out ?_)
        have RE : (wr.setCells h 0 Y).rangeAt h 0 Y := World.rangeAt_setCells_same _ _ _ _ (by have := THR.out; rw [HYs.out] at this; rw [HYl.out]; exact this)
        refine bodyPost_ret (results_ct Tryd.results14 _ _ ⟨h, 0, none⟩ (.agg Y.toArray) (.int .i64 5) rfl rfl (run_loadVar_mid (P := Tryd.prog) _ h 0 31 Y _ RE Tryd.underlying31 rfl (by rw [HYl.out]; exact info_hash))) rfl ⟨.inr ⟨⟨k, hlt, by rw [HD.out]; exact hneg⟩, by rw [HY.out]⟩, ?_⟩
        refine Kep.bel BW.out ((HK.out.mono (T := fun i => i = h ∨ i = h + 1) (fun _ _ e => .inr e)).trans ((kep_setCellsK h Y 0 wr).mono (fun _ _ e => .inl e))) (fun i hi => ?_)
        have := HH.out
        rcases hi with hi | hi <;> omega
      · have hge : 0 ≤ d := by omega
        have ss := ST.out hge
        have RS := Lib.hid (rdB_set (dvs s) hlt _ rfl)
        generalize hz : rdE (dvs s) k (k / 2) = z at *
        have HPK := Lib.hid (show ∀ i, i < k + 1 → 0 ≤ dvs s i from fun i hi => by
          rcases Nat.lt_or_ge i k with h3 | h3
          · exact HP.out i h3
          · obtain rfl : i = k := by omega
            rw [HD.out]; exact hge)
        obtain ⟨zz, hzz⟩ : ∃ zz, rdE (dvs s) (k + 1) (k / 2) = zz := ⟨_, rfl⟩
        rw [hzz] at ss RS
        have SS := Lib.hid (show bits .or .u8 (z * 16 % 256) d = zz by rw [← IntKind.wrap_u8]; exact ss)
        clear hz hzz ST ss
        go_wp2
        go_roundw
        case rel =>
          refine ⟨k + 1, by go_num, by omega, HPK.out, ?_, HK.out.set_self _ _⟩
          have h2 := HS.out.set (k / 2) (.int .u8 zz)
          rw [RS.out] at h2
          rw [SS.out]
          exact h2
        case measure => simp [intOf] <;> omega
    · obtain rfl : k = 64 := by omega
      obtain ⟨X, hX⟩ : ∃ X, X = (rdB (dvs s) 64).map B8 := ⟨_, rfl⟩
      rw [← hX] at hs
      have HXl := Lib.hid (show X.length = 32 by rw [hX, List.length_map, rdB_len])
      have HXs := Lib.hid (show X.toArray.size = 32 by rw [List.size_toArray]; exact HXl.out)
      have HXo := Lib.hid (all_oneCell_toArray (cs := X) (by rw [hX]; exact ints_b8 _))
      have HXi := Lib.hid (show (Tryd.prog.info? 31).map (·.size) = some X.toArray.size by rw [HXs.out]; exact info_hash)
      have HXi2 := Lib.hid (show (Tryd.prog.info? 31).map (·.size) = some X.length by rw [HXl.out]; exact info_hash)
      have RX := Lib.hid (blk_range hs)
      have THX := Lib.hid (show wr.there h 0 X.toArray.size by rw [HXs.out]; exact there_kep TH.out HK.out (by omega))
      have HX := Lib.hid hX
      clear hs hkep hpos HS hX
      go_wp2_with (first | (refine wpList_load_mid rfl 31 (.tmp 4) rfl (h + 1) 0 rfl X _ RX.out Tryd.underlying31 rfl HXi2.out ?_) | (refine wpList_store_mid rfl 31 (.tmp 2) (.tmp 35) rfl h 0 X.toArray rfl rfl THX.out HXi.out HXo.out ?_))
      have RE : (wr.setCells h 0 X).rangeAt h 0 X := World.rangeAt_setCells_same _ _ _ _ (by have := THX.out; rw [HXs.out] at this; rw [HXl.out]; exact this)
      refine bodyPost_ret (results_ct Tryd.results14 _ _ ⟨h, 0, none⟩ (.agg X.toArray) (.int .i64 0) rfl rfl (run_loadVar_mid (P := Tryd.prog) _ h 0 31 X _ RE Tryd.underlying31 rfl (by rw [HXl.out]; exact info_hash))) rfl ⟨.inl ⟨HP.out, by rw [HX.out]⟩, ?_⟩
      refine Kep.bel BW.out ((HK.out.mono (T := fun i => i = h ∨ i = h + 1) (fun _ _ e => .inr e)).trans ((kep_setCellsK h X 0 wr).mono (fun _ _ e => .inl e))) (fun i hi => ?_)
      have := HH.out
      rcases hi with hi | hi <;> omega
end Kk
end Go.Proofs.YtaniijpppmipbaaDoor
