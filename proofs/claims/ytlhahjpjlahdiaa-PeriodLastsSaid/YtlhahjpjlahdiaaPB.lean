/-
  Texts of this claim, put together: PRef, PRec, PRf2, PRf3, PRf4. What each one says, and under which conditions, stands ahead of it.
-/
import Derived.Laws.CopyOwn
import Derived.Test.YtlhahjpjlahdiaaPA

section
/-
  What the reference's bounds, and the kit's Fields and Record, answer. Conditions: the eleven numbers are of their kinds.
-/
namespace Go.Proofs.Ytlhahjpjlahdiaa
open Go.RowKit Go.Shelf
set_option linter.unusedVariables false
namespace Pm
open Kk

/-- A new row of ints. -/
def IntsE (xs : List Int) (w : World) (e : Ending) (w' : World) : Prop := ∃ b, e = .returned (.slice (some ⟨b, 0, none⟩) xs.length xs.length) ∧ Blk w' b (xs.map (Value.int .i64)).toArray 3 ∧ w.heap.size ≤ b ∧ Bel w w'
theorem blk_at {w : World} {cs cs' : Array Value} {t : TypeId} {b : Nat} (h : w.heap.size = b) (e : cs = cs') : Blk (w.alloc (.cells cs t)) b cs' t := by
  subst h
  subst e
  exact Blk.new w _ _
theorem ints_cell {w : World} {b : Nat} {xs : List Int} (h : Blk w b (xs.map (Value.int .i64)).toArray 3) (i : Nat) (hi : i < xs.length) : w.cell? ⟨b, i, none⟩ = some (.int .i64 (xs.getD i 0)) :=
  h.cell i (by rw [List.getElem?_toArray, List.getElem?_map, List.getElem?_eq_getElem hi, getD_eq _ _ hi]; rfl)

set_option maxRecDepth 100000 in
set_option maxHeartbeats 1000000 in
theorem leastR (w : World) : Calls Try.prog 53 #[] w (IntsE los w) := by
  go_enter Try.func53, Try.ntmps53
  go_wp2
  go_ret
  exact ⟨w.heap.size, rfl, Blk.new w _ _, Nat.le_refl _, (Bel.refl w).alloc _⟩
set_option maxRecDepth 100000 in
set_option maxHeartbeats 1000000 in
theorem mostR (w : World) : Calls Try.prog 54 #[] w (IntsE his w) := by
  go_enter Try.func54, Try.ntmps54
  go_wp2
  go_ret
  exact ⟨w.heap.size, rfl, Blk.new w _ _, Nat.le_refl _, (Bel.refl w).alloc _⟩

set_option maxRecDepth 100000 in
set_option maxHeartbeats 1000000 in
theorem within (i : Nat) (hi11 : i < 11) (n : Int) (w : World) : Calls Try.prog 48 #[.int .i64 i, .int .i64 n] w fun e w' => e = .returned (.bool (okB (lo i) (hi i) n)) ∧ Bel w w' := by
  obtain ⟨a, ha⟩ : ∃ a, los.getD i 0 = a := ⟨_, rfl⟩
  obtain ⟨b, hb⟩ : ∃ b, his.getD i 0 = b := ⟨_, rfl⟩
  rw [show lo i = a from ha, show hi i = b from hb]
  have HA := Lib.hid (show ∀ (W : World) (g : Nat), Blk W g (los.map (Value.int .i64)).toArray 3 → W.cell? ⟨g, i, none⟩ = some (.int .i64 a) from fun W g h => by rw [← ha]; exact ints_cell h i hi11)
  have HB := Lib.hid (show ∀ (W : World) (g : Nat), Blk W g (his.map (Value.int .i64)).toArray 3 → W.cell? ⟨g, i, none⟩ = some (.int .i64 b) from fun W g h => by rw [← hb]; exact ints_cell h i hi11)
  clear ha hb
  by_cases h1 : a ≤ n
  · by_cases h2 : n ≤ b
    · have HO := Lib.hid (show okB a b n = true by simp [okB, h1, h2])
      go_enter Try.func48, Try.ntmps48
      go_wp2_with fail
      refine (leastR _).mono ?_
      rintro e w1 ⟨g, rfl, hg, _, k1⟩
      have c1 := HA.out _ _ hg
      have B1 := Lib.hid (show Bel w w1 from k1)
      clear hg k1
      go_wp2_with fail
      refine (mostR _).mono ?_
      rintro e w2 ⟨g2, rfl, hg2, _, k2⟩
      have c2 := HB.out _ _ hg2
      have B2 := Lib.hid (show Bel w1 w2 from k2)
      clear hg2 k2 c1
      go_wp2
      go_ret
      exact ⟨by rw [HO.out]; rfl, B1.out.trans B2.out⟩
    · have HO := Lib.hid (show okB a b n = false by simp [okB, h2])
      have hd : decide (n ≤ b) = false := by simpa using h2
      go_enter Try.func48, Try.ntmps48
      go_wp2_with fail
      refine (leastR _).mono ?_
      rintro e w1 ⟨g, rfl, hg, _, k1⟩
      have c1 := HA.out _ _ hg
      have B1 := Lib.hid (show Bel w w1 from k1)
      clear hg k1
      go_wp2_with fail
      refine (mostR _).mono ?_
      rintro e w2 ⟨g2, rfl, hg2, _, k2⟩
      have c2 := HB.out _ _ hg2
      have B2 := Lib.hid (show Bel w1 w2 from k2)
      clear hg2 k2 c1
      go_wp2
      go_ret
      exact ⟨by rw [HO.out]; rfl, B1.out.trans B2.out⟩
  · have HO := Lib.hid (show okB a b n = false by simp [okB, h1])
    go_enter Try.func48, Try.ntmps48
    go_wp2_with fail
    refine (leastR _).mono ?_
    rintro e w1 ⟨g, rfl, hg, _, k1⟩
    have c1 := HA.out _ _ hg
    have B1 := Lib.hid (show Bel w w1 from k1)
    clear hg k1
    go_wp2
    go_ret
    exact ⟨by rw [HO.out]; rfl, B1.out⟩

/-- What Fields makes of a record: no word above 2^40. -/
def fv (x : Nat → Int) (i : Nat) : Int := if isU i then min (x i) 1099511627776 else x i
def fvs (x : Nat → Int) : List Int := [x 0, x 1, x 2, x 3, x 4, x 5, x 6, min (x 7) 1099511627776, min (x 8) 1099511627776, x 9, min (x 10) 1099511627776]
theorem fvs_at (x : Nat → Int) (i : Nat) (hi : i < 11) : (fvs x).getD i 0 = fv x i := by
  match i, hi with
  | 0, _ => rfl
  | 1, _ => rfl
  | 2, _ => rfl
  | 3, _ => rfl
  | 4, _ => rfl
  | 5, _ => rfl
  | 6, _ => rfl
  | 7, _ => rfl
  | 8, _ => rfl
  | 9, _ => rfl
  | 10, _ => rfl
  | n + 11, h => omega
theorem lohi (i : Nat) (hi11 : i < 11) : 0 ≤ lo i ∧ lo i ≤ hi i ∧ hi i ≤ 1000000000 := by
  match i, hi11 with
  | 0, _ => decide
  | 1, _ => decide
  | 2, _ => decide
  | 3, _ => decide
  | 4, _ => decide
  | 5, _ => decide
  | 6, _ => decide
  | 7, _ => decide
  | 8, _ => decide
  | 9, _ => decide
  | 10, _ => decide
  | n + 11, h => omega
theorem okF_fv {x : Nat → Int} (hx : Kinds x) (i : Nat) (hi11 : i < 11) : okF x i = okB (lo i) (hi i) (fv x i) := by
  have h := lohi i hi11
  have hk := hx i hi11
  unfold okF okB wv fv
  cases hu : isU i with
  | true =>
    have h2 := hk.1 hu
    rw [if_pos rfl, if_pos rfl, decide_eq_decide]
    omega
  | false =>
    have h2 := hk.2 hu
    rw [if_neg Bool.false_ne_true, if_neg Bool.false_ne_true, decide_eq_decide]
    simp only [IntKind.wrap, IntKind.bits, IntKind.signed]
    simp
    omega

set_option maxRecDepth 100000 in
set_option maxHeartbeats 2000000 in
theorem fieldsK (x : Nat → Int) (hx : Kinds x) (w : World) : Calls Try.prog 47 #[.agg (recC x).toArray] w (IntsE (fvs x) w) := by
  obtain ⟨h7, h7'⟩ := (hx 7 (by omega)).1 rfl
  obtain ⟨h8, h8'⟩ := (hx 8 (by omega)).1 rfl
  obtain ⟨hA, hA'⟩ := (hx 10 (by omega)).1 rfl
  rw [show (recC x).toArray = #[.int .i64 (x 0), .int .i64 (x 1), .int .i64 (x 2), .int .i64 (x 3), .int .i64 (x 4), .int .i64 (x 5), .int .i64 (x 6), .int .u64 (x 7), .int .u64 (x 8), .int .i64 (x 9), .int .u64 (x 10)] from rfl]
  go_enter Try.func47, Try.ntmps47
  go_wp2
  all_goals
    go_ret
    refine ⟨w.heap.size + 1, rfl, blk_at (by simp) ?_, Nat.le_succ _, ((Bel.refl w).alloc _).alloc _⟩
    simp [fvs]
    try omega
end Pm
end Go.Proofs.Ytlhahjpjlahdiaa
end

section
/-
  What the kit's Record answers: the record of eleven numbers. Condition: the slice has eleven numbers.
-/
namespace Go.Proofs.Ytlhahjpjlahdiaa
open Go.RowKit Go.Shelf
set_option linter.unusedVariables false
namespace Pm
open Kk

theorem info_int : (Try.prog.info? 3).map (fun i => (i.zero, i.size, i.bytes)) = some (some (.int .i64 0), 1, 8) := by kernel_rfl
def xg (xs : List Int) (i : Nat) : Int := xs.getD i 0
theorem info_int1 : (Try.prog.info? 3).map (·.size) = some 1 := by kernel_rfl
theorem add_addr (b o j : Nat) : (⟨b, o, none⟩ : Addr).add j = ⟨b, o + j, none⟩ := by
  unfold Addr.add
  by_cases h : j = 0
  · simp [h]
  · simp [h]
def toR (xs : List Int) (i : Nat) : Int := if isU i then IntKind.u64.wrap (xg xs i) else xg xs i
def RecE (y : Nat → Int) (w : World) (e : Ending) (w' : World) : Prop := e = .returned (.agg (recC y).toArray) ∧ Bel w w'

end Pm
end Go.Proofs.Ytlhahjpjlahdiaa
end

section
/-
  What the reference's Names, find and Check answer. Conditions: the eleven numbers are of their kinds.
-/
namespace Go.Proofs.Ytlhahjpjlahdiaa
open Go.RowKit Go.Shelf
set_option linter.unusedVariables false
namespace Pm
open Kk

/-- The list of the names, new. -/
def NamesE (w : World) (e : Ending) (w' : World) : Prop := ∃ b, e = .returned (.slice (some ⟨b, 0, none⟩) 11 11) ∧ Blk w' b (nms.map Value.string).toArray 9 ∧ w.heap.size ≤ b ∧ Bel w w'
theorem nms_len : nms.length = 11 := rfl
theorem strs_cell {w : World} {b : Nat} (h : Blk w b (nms.map Value.string).toArray 9) (i : Nat) (hi : i < 11) : w.cell? ⟨b, i, none⟩ = some (.string (nm i)) :=
  h.cell i (by rw [List.getElem?_toArray, List.getElem?_map, List.getElem?_eq_getElem (by rw [nms_len]; exact hi)]; unfold nm; rw [List.getD_eq_getElem?_getD, List.getElem?_eq_getElem (by rw [nms_len]; exact hi)]; rfl)

def FdR (s : ByteArray) (r : Int) : Prop := (∃ i, At s i ∧ r = (i : Int)) ∨ ((∀ j, j < 11 → nm j ≠ s) ∧ r = -1)
def FdRE (s : ByteArray) (w : World) (e : Ending) (w' : World) : Prop := ∃ r, e = .returned (.int .i64 r) ∧ FdR s r ∧ Bel w w'

set_option maxRecDepth 100000 in
set_option maxHeartbeats 1000000 in
theorem checkR (x : Nat → Int) (hx : Kinds x) (w : World) : Calls Try.prog 44 #[.agg (recC x).toArray] w (ChkE x w) := by
  obtain ⟨D, hD⟩ : ∃ D, D = recC x := ⟨_, rfl⟩
  obtain ⟨W, hW⟩ : ∃ W, w.alloc (.cells D.toArray 24) = W := ⟨_, rfl⟩
  have B0 := Lib.hid (show Bel w W by rw [← hW]; exact (Bel.refl w).alloc _)
  have R0 := Lib.hid (show W.rangeAt w.heap.size 0 (recC x) by rw [← hW, hD]; exact rngB (Blk.new w (recC x).toArray 24))
  obtain ⟨p, hp⟩ : ∃ p, w.heap.size = p := ⟨_, rfl⟩
  rw [hp] at R0
  have HDl := Lib.hid (show D.length = 11 by rw [hD]; rfl)
  have HF := Lib.hid (fieldsK x hx)
  rw [← hD] at HF
  have HD := Lib.hid hD
  rw [← hD]
  have HX := Lib.hid hx
  have HP := Lib.hid hp
  have HW := Lib.hid hW
  clear hx hp hD hW
  go_enter Try.func44, Try.ntmps44
  go_upto_region 1 with fail
  rw [HW.out, HP.out]
  have R1 := Lib.hid R0.out
  rw [← HD.out] at R1
  go_wp2_with (refine wpList_load_mid rfl 24 (.tmp 1) rfl p 0 rfl D _ R1.out Try.underlying24 rfl (by rw [HDl.out]; exact info_rec) ?_)
  refine (HF.out W).mono ?_
  rintro e w1 ⟨b, rfl, hb, _, k1⟩
  have HB := Lib.hid hb
  have B1 : Hid (Bel W w1) := Lib.hid k1
  clear hb k1
  rw [show (fvs x).length = 11 from rfl]
  go_wp2_with fail
  go_loopw [5] (fun u5 wr => ∃ k : Nat, u5 = .int .i64 k ∧ k ≤ 11 ∧ (∀ j, j < k → okF x j = true) ∧ Bel w1 wr) (fun u5 _ => 11 - (intOf u5).toNat)
  case atStart => exact ⟨0, rfl, by omega, fun j hj => by omega, Bel.refl _⟩
  case round =>
    obtain ⟨k, rfl, hk, hall, hb⟩ := hrel
    have HA := Lib.hid hall
    clear hall
    have KB := Lib.hid hb
    clear hb
    by_cases hlt : k < 11
    · have hcell := ints_cell (HB.out.bel KB.out) k hlt
      rw [fvs_at x k hlt] at hcell
      obtain ⟨v, hv⟩ : ∃ v, fv x k = v := ⟨_, rfl⟩
      obtain ⟨q, hq⟩ : ∃ q, okF x k = q := ⟨_, rfl⟩
      have WI := Lib.hid (show Calls Try.prog 48 #[.int .i64 k, .int .i64 v] wr fun e w' => e = .returned (.bool q) ∧ Bel wr w' by rw [← hq, okF_fv HX.out k hlt, hv]; exact within k hlt v wr)
      rw [hv] at hcell
      have HQ := Lib.hid hq
      clear hv hq
      go_wp2_with fail
      refine WI.out.mono ?_
      rintro e w2 ⟨rfl, k2⟩
      have B2 : Hid (Bel wr w2) := Lib.hid k2
      clear k2 hcell
      cases q with
      | false =>
        go_wp2_with fail
        go_ret2
        exact ⟨3, (k : Int), rfl, .inl ⟨k, hlt, HA.out, HQ.out, rfl, rfl⟩, ((B0.out.trans B1.out).trans KB.out).trans B2.out⟩
      | true =>
        go_wp2_with fail
        refine ⟨⟨k + 1, by go_num, by omega, upto_succ HA.out HQ.out, KB.out.trans B2.out⟩, ?_⟩
        simp [intOf]; omega
    · obtain rfl : k = 11 := by omega
      have R2 := rng_bel (rng_bel R0.out B1.out) KB.out
      have c0 := rec_cell R2 0 (by omega)
      have c1 := rec_cell R2 1 (by omega)
      rw [show kd 0 = .i64 from rfl] at c0
      rw [show kd 1 = .i64 from rfl] at c1
      by_cases ho : x 1 ≤ x 0
      · clear R2
        go_wp2_with fail
        go_ret2
        exact ⟨0, 0, rfl, .inr (.inr ⟨HA.out, ho, rfl, rfl⟩), (B0.out.trans B1.out).trans KB.out⟩
      · have ho2 : x 0 < x 1 := by omega
        clear R2
        go_wp2_with fail
        go_ret2
        exact ⟨9, 1, rfl, .inr (.inl ⟨HA.out, ho2, rfl, rfl⟩), (B0.out.trans B1.out).trans KB.out⟩
end Pm
end Go.Proofs.Ytlhahjpjlahdiaa
end

section
/-
  What the reference's Get, Set and Default answer, and the program's Default. Conditions: the eleven numbers are of their kinds; the number that is set is below 2^64.
-/
namespace Go.Proofs.Ytlhahjpjlahdiaa
open Go.RowKit Go.Shelf
set_option linter.unusedVariables false
namespace Pm
open Kk

theorem Chk.ok {x : Nat → Int} (h : Chk x 0 0) : (∀ j, j < 11 → okF x j = true) ∧ x 1 ≤ x 0 := by
  rcases h with ⟨_, _, _, _, h, _⟩ | ⟨_, _, h, _⟩ | ⟨h1, h2, _, _⟩
  · omega
  · omega
  · exact ⟨h1, h2⟩
theorem okF_b {x : Nat → Int} (hx : Kinds x) (i : Nat) (hi11 : i < 11) (h : okF x i = true) : lo i ≤ x i ∧ x i ≤ hi i := by
  have hl := lohi i hi11
  have hk := hx i hi11
  rw [okF_fv hx i hi11] at h
  have h2 : lo i ≤ fv x i ∧ fv x i ≤ hi i := by simpa [okB] using h
  unfold fv at h2
  cases hu : isU i with
  | true =>
    rw [hu, if_pos rfl] at h2
    omega
  | false =>
    rw [hu, if_neg Bool.false_ne_true] at h2
    exact h2
theorem fv_ok {x : Nat → Int} (hx : Kinds x) (i : Nat) (hi11 : i < 11) (h : okF x i = true) : fv x i = x i := by
  have hl := lohi i hi11
  have hb := okF_b hx i hi11 h
  unfold fv
  split <;> omega
theorem wrap_in (n : Int) (h0 : 0 ≤ n) (h1 : n ≤ 18446744073709551615) : IntKind.u64.wrap n = n := by
  simp only [IntKind.wrap, IntKind.bits, IntKind.signed]
  simp
  omega
theorem wv_ok {x : Nat → Int} (hx : Kinds x) (i : Nat) (hi11 : i < 11) (h : okF x i = true) : wv x i = x i := by
  have hl := lohi i hi11
  have hb := okF_b hx i hi11 h
  unfold wv
  split
  · rfl
  · exact wrap_in _ (by omega) (by omega)
theorem recC_congr {x y : Nat → Int} (h : ∀ j, j < 11 → x j = y j) : recC x = recC y := by
  unfold recC
  rw [h 0 (by omega), h 1 (by omega), h 2 (by omega), h 3 (by omega), h 4 (by omega), h 5 (by omega), h 6 (by omega), h 7 (by omega), h 8 (by omega), h 9 (by omega), h 10 (by omega)]
theorem Chk.uniq {x : Nat → Int} {a b c d : Int} (h : Chk x a b) (k : Chk x c d) : a = c ∧ b = d := by
  rcases h with ⟨i, hi, h1, h2, h3, h4⟩ | ⟨h1, h2, h3, h4⟩ | ⟨h1, h2, h3, h4⟩
  · rcases k with ⟨j, hj, k1, k2, k3, k4⟩ | ⟨k1, k2, k3, k4⟩ | ⟨k1, k2, k3, k4⟩
    · have : i = j := by
        rcases Nat.lt_trichotomy i j with h | h | h
        · have := k1 i h; rw [h2] at this; cases this
        · exact h
        · have := h1 j h; rw [k2] at this; cases this
      subst this
      exact ⟨by omega, by omega⟩
    · have := k1 i hi; rw [h2] at this; cases this
    · have := k1 i hi; rw [h2] at this; cases this
  · rcases k with ⟨j, hj, k1, k2, k3, k4⟩ | ⟨k1, k2, k3, k4⟩ | ⟨k1, k2, k3, k4⟩
    · have := h1 j hj; rw [k2] at this; cases this
    · exact ⟨by omega, by omega⟩
    · omega
  · rcases k with ⟨j, hj, k1, k2, k3, k4⟩ | ⟨k1, k2, k3, k4⟩ | ⟨k1, k2, k3, k4⟩
    · have := h1 j hj; rw [k2] at this; cases this
    · omega
    · exact ⟨by omega, by omega⟩
theorem upd_at (x : Nat → Int) (i : Nat) (v : Int) : upd x i v i = v := by unfold upd; rw [if_pos rfl]
theorem upd_other (x : Nat → Int) {i j : Nat} (v : Int) (h : j ≠ i) : upd x i v j = x j := by unfold upd; rw [if_neg h]
theorem sv_small (i : Nat) (n : Int) (h0 : 0 ≤ n) (h1 : n ≤ 1099511627776) : sv i n = n := by
  unfold sv
  split
  · rfl
  · unfold wrap64; omega
theorem wv_upd (x : Nat → Int) (i : Nat) (n : Int) (h0 : 0 ≤ n) (h1 : n ≤ 18446744073709551615) : wv (upd x i (sv i n)) i = n := by
  unfold wv
  rw [upd_at]
  unfold sv
  cases hu : isU i with
  | true => rw [if_pos rfl, if_pos rfl]
  | false =>
    rw [if_neg Bool.false_ne_true, if_neg Bool.false_ne_true]
    simp only [IntKind.wrap, IntKind.bits, IntKind.signed, wrap64]
    simp
    omega
theorem okF_upd (x : Nat → Int) {i j : Nat} (v : Int) (h : j ≠ i) : okF (upd x i v) j = okF x j := by
  unfold okF wv
  rw [upd_other x v h]
/-- A number that is far too large is out of bounds, in any field. -/
theorem chk_big {x : Nat → Int} (h : Chk x 0 0) (i : Nat) (hi11 : i < 11) (n : Int) (h0 : 1099511627776 ≤ n) (h1 : n ≤ 18446744073709551615) : Chk (upd x i (sv i n)) 3 i := by
  refine .inl ⟨i, hi11, fun j hj => ?_, ?_, rfl, rfl⟩
  · rw [okF_upd x _ (by omega)]
    exact h.ok.1 j (by omega)
  · have hl := lohi i hi11
    unfold okF okB
    rw [wv_upd x i n (by omega) h1]
    simp
    omega
theorem FErr.of_find {x : Nat → Int} {s : ByteArray} (h : Chk x 0 0) (hn : ∀ j, j < 11 → nm j ≠ s) : FErr x s 10 := .inr ⟨h, hn, rfl⟩

end Pm
end Go.Proofs.Ytlhahjpjlahdiaa
end

section
/-
  What the reference's Set and Default answer, and the program's Default. Conditions: the eleven numbers are of their kinds; the number that is set is below 2^64.
-/
namespace Go.Proofs.Ytlhahjpjlahdiaa
open Go.RowKit Go.Shelf
set_option linter.unusedVariables false
namespace Pm
open Kk

def dfl : List Int := [100, 100, 10, 8, 7, 8, 20, 50000000, 3, 50, 100000000]
def dv (i : Nat) : Int := dfl.getD i 0
theorem kinds_dv : Kinds dv := by
  intro i hi
  match i, hi with
  | 0, _ => decide
  | 1, _ => decide
  | 2, _ => decide
  | 3, _ => decide
  | 4, _ => decide
  | 5, _ => decide
  | 6, _ => decide
  | 7, _ => decide
  | 8, _ => decide
  | 9, _ => decide
  | 10, _ => decide
  | n + 11, h => omega

theorem toR_dv : recC (toR dfl) = recC dv := by
  refine recC_congr fun j hj => ?_
  match j, hj with
  | 0, _ => rfl
  | 1, _ => rfl
  | 2, _ => rfl
  | 3, _ => rfl
  | 4, _ => rfl
  | 5, _ => rfl
  | 6, _ => rfl
  | 7, _ => exact wrap_in _ (by decide) (by decide)
  | 8, _ => exact wrap_in _ (by decide) (by decide)
  | 9, _ => rfl
  | 10, _ => exact wrap_in _ (by decide) (by decide)
  | n + 11, h => omega

end Pm
end Go.Proofs.Ytlhahjpjlahdiaa
end
