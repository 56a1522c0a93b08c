/-
  What absorb of a sponge answers in this program: a full block is taken in. Conditions: a sponge in a block that is not the first one; bytes; the table of turns lies in its variable.
-/
import Derived.Test.YtaniijpppmipbaaDoorKWord
namespace Go.Proofs.YtaniijpppmipbaaDoor
open Go.RowKit Go.Shelf
set_option linter.unusedVariables false
namespace Kk

/-- Bytes. -/
def By (bs : List Int) : Prop := ∀ z ∈ bs, 0 ≤ z ∧ z ≤ 255
theorem By.at {bs : List Int} (h : By bs) (i : Nat) : 0 ≤ bs.getD i 0 ∧ bs.getD i 0 ≤ 255 := by
  rcases Nat.lt_or_ge i bs.length with hi | hi
  · rw [getD_eq _ _ hi]; exact h _ (List.getElem_mem hi)
  · rw [List.getD_eq_getElem?_getD, List.getElem?_eq_none hi]; exact ⟨Int.le_refl _, by decide⟩
theorem By.drop {bs : List Int} (h : By bs) (k : Nat) : By (bs.drop k) := fun z hz => h z (List.mem_of_mem_drop hz)
theorem By.take {bs : List Int} (h : By bs) (k : Nat) : By (bs.take k) := fun z hz => h z (List.mem_of_mem_take hz)
theorem By.append {xs ys : List Int} (h : By xs) (k : By ys) : By (xs ++ ys) := fun z hz => (List.mem_append.1 hz).elim (h z) (k z)

def wd (bs : List Int) (i : Nat) : Wd := wordOf (bs.drop (i * 8))
def xored (A : List Wd) (bs : List Int) (n : Nat) : List Wd := (List.range 25).map fun i => if i < n then g A i ^^^ wd bs i else g A i
theorem xored0 {A : List Wd} (h : A.length = 25) (bs : List Int) : xored A bs 0 = A := by
  unfold xored
  simp only [Nat.not_lt_zero, if_false]
  exact map_g h
theorem len_xored (A : List Wd) (bs : List Int) (n : Nat) : (xored A bs n).length = 25 := by simp [xored]
theorem xored_succ (A : List Wd) (bs : List Int) (n : Nat) : (xored A bs n).set n (g A n ^^^ wd bs n) = xored A bs (n + 1) := by
  unfold xored
  rw [set_map]
  apply List.map_congr_left
  intro i _
  by_cases h : i = n
  · subst h; simp
  · rw [if_neg h]
    by_cases h2 : i < n
    · rw [if_pos h2, if_pos (by omega)]
    · rw [if_neg h2, if_neg (by omega)]
theorem xored_at (A : List Wd) (bs : List Int) {n : Nat} (h : n < 25) : g (xored A bs n) n = g A n := by
  unfold xored
  rw [g_map _ h, if_neg (by omega)]
/-- What becomes of a state by a block. -/
def absorbed (A : List Wd) (bs : List Int) : List Wd := perm (xored A bs 17)
theorem len_absorbed (A : List Wd) (bs : List Int) : (absorbed A bs).length = 25 := len_perm (len_xored _ _ _)

theorem al136 : Tryd.prog.arrayLen 55 = 136 := by kernel_rfl
theorem el136 : Tryd.prog.elem 55 = 5 := by kernel_rfl
theorem sliceArr (b p l : Nat) (hl : l < 136) (w : World) :
    (Instr.sliceAt 55 (.pointer (some ⟨b, p, none⟩)) (some (.int .i64 (l : Int))) none none).run Tryd.prog w = .ok (.slice (some ⟨b, p + l, none⟩) (136 - l) (136 - l)) w := by
  rw [run_sliceAt_array_l (P := Tryd.prog) w 55 ⟨b, p, none⟩ (by rw [al136, el136]; exact Tryd.underlying55) .i64 (l : Int) (by omega) (by rw [al136]; omega), al136, el136]
  have hs : ∀ w, (sizeOf 5).run Tryd.prog w = .ok 1 w := Tryd.sizeOf5
  rw [hs w]
  simp only [Result.andThen, slicedAt, Int.toNat_natCast]
  rw [if_neg (by omega), Addr.add_mid, Nat.mul_one]

set_option maxRecDepth 100000 in
set_option maxHeartbeats 2000000 in
theorem absorb (b : Nat) (t : TypeId) (pre : List Value) (A : List Wd) (r : Int) (bs : List Int) (c n : Int) (w : World) (h : Sp w b t pre A r bs c n) (hB : By bs) (hT : Tn w) (hb0 : b ≠ 0) :
    Calls Tryd.prog 52 #[.pointer (some ⟨b, pre.length, none⟩)] w fun e w' => e = .returned (.tuple #[]) ∧ Sp w' b t pre (absorbed A bs) 23 bs 0 n ∧ Kep (fun i => i = b) w w' := by
  obtain ⟨o, ho⟩ : ∃ o, o = pre.length := ⟨_, rfl⟩
  rw [← ho]
  have HO := Lib.hid ho
  have H := Lib.hid h
  have HT := Lib.hid hT
  have HB := Lib.hid hB
  clear h hT ho
  go_enter Tryd.func52, Tryd.ntmps52
  go_wp2
  go_loopw [3] (fun i wr => ∃ k : Nat, i = .int .i64 k ∧ k ≤ 17 ∧ Sp wr b t pre (xored A bs k) r bs c n ∧ Kep (fun i => i = b) w wr) (fun i _ => 17 - (intOf i).toNat)
  case atStart => exact ⟨0, rfl, by omega, by rw [xored0 H.out.la]; exact H.out, Kep.refl _ _⟩
  case round =>
    obtain ⟨k, rfl, hk, hs, hkep⟩ := hrel
    have HS := Lib.hid hs
    have HK := Lib.hid hkep
    by_cases hlt : k < 17
    · have k0 := hs.word (i := k) (by omega)
      rw [xored_at A bs (by omega)] at k0
      obtain ⟨q, hq⟩ : ∃ q, k / 5 = q := ⟨_, rfl⟩
      obtain ⟨m, hm⟩ : ∃ m, k % 5 = m := ⟨_, rfl⟩
      have e5 : pre.length + k = o + q * 5 + m := by rw [← HO.out]; omega
      rw [e5] at k0
      have f0 := hs.frozen (o + q * 5 + m)
      have E5 := Lib.hid e5
      have sl := fun w => sliceArr b (o + 50) (k * 8) (by omega) w
      rw [show ((k * 8 : Nat) : Int) = (k : Int) * 8 by omega] at sl
      have HZ := Lib.hid (show ∀ j, j < 8 → wr.drew.cell? ⟨b, o + 50 + k * 8 + j, none⟩ = some (.int .u8 ((bs.drop (k * 8)).getD j 0)) from fun j hj => by
        have := (hs.drew).byte (i := k * 8 + j) (by omega)
        rw [← HO.out] at this
        rw [List.getD_eq_getElem?_getD, List.getElem?_drop, ← List.getD_eq_getElem?_getD, Nat.add_assoc]
        exact this)
      have HBd := Lib.hid (fun j (_ : j < 8) => (HB.out.drop (k * 8)).at j)
      have qx := xor_u (g A k) (wordOf (bs.drop (k * 8)))
      have d5 : ((k : Int)).tdiv 5 = (q : Int) := by
        rw [Int.tdiv_eq_ediv_of_nonneg (by omega)]; omega
      have m5 : ((k : Int)).tmod 5 = (m : Int) := by
        rw [Int.tmod_eq_emod_of_nonneg (by omega)]; omega
      have d5' : ((k : Int)) / 5 = (q : Int) := by omega
      have m5' : ((k : Int)) % 5 = (m : Int) := by omega
      have q5 : (q : Int) < 5 := by omega
      have n5 : (m : Int) < 5 := by omega
      have wq : IntKind.i64.wrap (q : Int) = q := IntWalk.i64_in _ (by omega)
      have wm : IntKind.i64.wrap (m : Int) = m := IntWalk.i64_in _ (by omega)
      have w8 : IntKind.i64.wrap ((k : Int) * 8) = (k : Int) * 8 := IntWalk.i64_in _ (by omega)
      clear hq hm
      clear hs hkep e5
      go_wp2
      go_region_with ((go_at_call 63; (with_reducible refine (word b (o + 50 + k * 8) (136 - k * 8) (136 - k * 8) (bs.drop (k * 8)) _ (by omega) (Nat.le_refl _) HZ.out HBd.out).mono ?_); rintro e w' ⟨rfl, rfl⟩))
      all_goals
        try (exfalso; omega)
      all_goals
        go_wp2
        go_roundw
        case rel =>
          refine ⟨k + 1, by go_num, by omega, ?_, (HK.out.set_self _ _).drew⟩
          have h2 := (HS.out.setWord (i := k) (by omega) (g A k ^^^ wd bs k)).drew
          rw [xored_succ, E5.out] at h2
          exact h2
        case measure => simp [intOf] <;> omega
    · obtain rfl : k = 17 := by omega
      obtain ⟨X, hX⟩ : ∃ X, X = xored A bs 17 := ⟨_, rfl⟩
      rw [← hX] at hs
      have lX : X.length = 25 := hs.la
      obtain ⟨Y, hY⟩ : ∃ Y, Y = stCells X r := ⟨_, rfl⟩
      have HY := Lib.hid hY
      have HX := Lib.hid hX
      have RY := Lib.hid (show wr.rangeAt b o Y by rw [hY, HO.out]; exact hs.stRange)
      have YI := Lib.hid (show (Tryd.prog.info? 54).map (·.size) = some Y.length by rw [hY, len_st lX]; exact info_st)
      have T4 := Lib.hid (HT.out.kep hkep (by omega))
      have HSX := Lib.hid hs
      clear hs hkep HS hY hX
      go_wp2_with (refine wpList_load_mid rfl 54 (.tmp 35) rfl b o rfl Y _ RY.out Tryd.underlying54 rfl YI.out ?_)
      refine ((by rw [HY.out]; exact permuted X r wr lX T4.out) : Calls Tryd.prog 45 #[.agg Y.toArray] wr fun e w' => e = .returned (stV (perm X) 23) ∧ Bel wr w').mono ?_
      rintro e w5 ⟨rfl, h5⟩
      have H5 : Bel wr w5 := h5
      have S5 := HSX.out.bel H5
      have lp := len_perm lX
      obtain ⟨Z, hZ⟩ : ∃ Z, Z = stCells (perm X) 23 := ⟨_, rfl⟩
      have HZ := Lib.hid hZ
      rw [show stV (perm X) 23 = .agg Z.toArray by rw [hZ]]
      have TX := Lib.hid (show w5.there b o Z.toArray.size by
        rw [List.size_toArray, hZ, len_st lp, HO.out]
        exact S5.stThere)
      have XI := Lib.hid (show (Tryd.prog.info? 54).map (·.size) = some Z.toArray.size by rw [List.size_toArray, hZ, len_st lp]; exact info_st)
      have XO := Lib.hid (all_oneCell_toArray (cs := Z) (by rw [hZ]; exact all_st _ _))
      have S6 := (show Sp (w5.setCells b o Z) b t pre (perm X) 23 bs c n by rw [hZ, HO.out]; exact S5.stSet lp 23)
      have K6 := Lib.hid (show Kep (fun i => i = b) wr (w5.setCells b o Z) from (Kep.of_bel H5).trans (kep_setCellsK b Z o w5))
      have c6 := S6.count
      have f6 := S6.frozen (pre.length + 50 + 136)
      rw [← HO.out] at c6 f6
      have S7 := S6.setCount 0
      rw [← HO.out] at S7
      have HS7 := Lib.hid S7
      clear h5 hZ S5 S6 S7 lp RY YI T4 HSX H5
      go_wp2_with (refine wpList_store_mid rfl 54 (.tmp 39) (.tmp 37) rfl b o Z.toArray rfl rfl TX.out XI.out XO.out ?_)
      go_end0
      refine ⟨rfl, ?_, (HK.out.trans K6.out).set_self _ _⟩
      have := HS7.out
      rw [HX.out] at this
      exact this
end Kk
end Go.Proofs.YtaniijpppmipbaaDoor
