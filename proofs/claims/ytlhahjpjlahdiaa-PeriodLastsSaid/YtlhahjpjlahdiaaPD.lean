/-
  Texts of this claim, put together: PdM, Pd0, Pd1, Pd2, Pd3, Pd4. What each one says, and under which conditions, stands ahead of it.
-/
import Derived.Test.YtlhahjpjlahdiaaPB

section
/-
  What the calls of layer 8 answer, as plain functions of the numbers. No walk. No condition.
-/
namespace Go.Proofs.Ytlhahjpjlahdiaa
open Go.RowKit Go.Shelf
set_option linter.unusedVariables false
namespace Pd
open Kk Pm

open Classical in
/-- The error of Check. -/
noncomputable def ce (x : Nat → Int) : Int := if ∀ j, j < 11 → okF x j = true then (if x 1 ≤ x 0 then 0 else 9) else 3
theorem ce_of {x : Nat → Int} {a b : Int} (h : Chk x a b) : a = ce x := by
  unfold ce
  rcases h with ⟨i, hi, _, h2, h3, _⟩ | ⟨h1, h2, h3, _⟩ | ⟨h1, h2, h3, _⟩
  · rw [if_neg (fun hh => by have := hh i hi; rw [h2] at this; cases this)]; exact h3
  · rw [if_pos h1, if_neg (by omega)]; exact h3
  · rw [if_pos h1, if_pos h2]; exact h3
/-- The bounds of a record that Check likes. -/
structure Fit (x : Nat → Int) : Prop where
  ub : 1 ≤ x 0 ∧ x 0 ≤ 1048576
  age : 0 ≤ x 1 ∧ x 1 ≤ x 0
  len : 1 ≤ x 2 ∧ x 2 ≤ 1000
  win : 1 ≤ x 3 ∧ x 3 ≤ 256
  jail : 1 ≤ x 6 ∧ x 6 ≤ 1048576
  cor : 1 ≤ x 9 ∧ x 9 ≤ 1048576
theorem fit_of {x : Nat → Int} (hx : Kinds x) (h : ce x = 0) : Fit x := by
  unfold ce at h
  by_cases h1 : ∀ j, j < 11 → okF x j = true
  · rw [if_pos h1] at h
    by_cases h2 : x 1 ≤ x 0
    · have b0 := okF_b hx 0 (by decide) (h1 0 (by decide))
      have b1 := okF_b hx 1 (by decide) (h1 1 (by decide))
      have b2 := okF_b hx 2 (by decide) (h1 2 (by decide))
      have b3 := okF_b hx 3 (by decide) (h1 3 (by decide))
      have b6 := okF_b hx 6 (by decide) (h1 6 (by decide))
      have b9 := okF_b hx 9 (by decide) (h1 9 (by decide))
      exact ⟨b0, ⟨b1.1, h2⟩, b2, b3, b6, b9⟩
    · rw [if_neg h2] at h
      omega
  · rw [if_neg h1] at h
    omega
/-- Is a height, an epoch, out of range? -/
def wi (h : Int) : Int := if 1 ≤ h ∧ h ≤ 4294967296 then 0 else 3
def we (e : Int) : Int := if 0 ≤ e ∧ e ≤ 4294967296 then 0 else 3
theorem wi_cases (h : Int) : (wi h = 0 ∧ 1 ≤ h ∧ h ≤ 4294967296) ∨ (wi h = 3 ∧ ¬ (1 ≤ h ∧ h ≤ 4294967296)) := by
  unfold wi
  split
  · exact .inl ⟨rfl, by omega⟩
  · exact .inr ⟨rfl, by omega⟩
theorem we_cases (h : Int) : (we h = 0 ∧ 0 ≤ h ∧ h ≤ 4294967296) ∨ (we h = 3 ∧ ¬ (0 ≤ h ∧ h ≤ 4294967296)) := by
  unfold we
  split
  · exact .inl ⟨rfl, by omega⟩
  · exact .inr ⟨rfl, by omega⟩
/-- The first error of a list. -/
def fo : List Int → Int
  | [] => 0
  | a :: r => if a = 0 then fo r else a
/-- The error of Check, then that of a list. -/
noncomputable def er (x : Nat → Int) (es : List Int) : Int := fo [ce x, fo es]
theorem er_zero {x : Nat → Int} {es : List Int} (h : er x es = 0) : ce x = 0 ∧ fo es = 0 := by
  unfold er at h
  by_cases h1 : ce x = 0
  · refine ⟨h1, ?_⟩
    simp only [fo, h1, if_true] at h
    by_cases h2 : fo es = 0
    · exact h2
    · rw [if_neg h2] at h
      exact absurd h h2
  · simp only [fo, if_neg h1] at h
    exact absurd h h1
theorem er_ok {x : Nat → Int} {es : List Int} (h1 : ce x = 0) (h2 : fo es = 0) : er x es = 0 := by
  simp [er, fo, h1, h2]
theorem er_bad {x : Nat → Int} {es : List Int} (h1 : ce x ≠ 0) : er x es = ce x := by
  simp [er, fo, h1]
theorem er_rest {x : Nat → Int} {es : List Int} (h1 : ce x = 0) : er x es = fo es := by
  simp only [er, fo, h1, if_true]
  split <;> simp_all
theorem fo1 (a : Int) : fo [a] = a := by simp only [fo]; split <;> simp_all
theorem fo2 {a b : Int} (h : fo [a, b] = 0) : a = 0 ∧ b = 0 := by
  simp only [fo] at h
  by_cases h1 : a = 0
  · rw [if_pos h1] at h
    by_cases h2 : b = 0
    · exact ⟨h1, h2⟩
    · rw [if_neg h2] at h; exact absurd h h2
  · rw [if_neg h1] at h
    exact absurd h h1
theorem ce_b (x : Nat → Int) : ce x = 0 ∨ ce x = 3 ∨ ce x = 9 := by
  unfold ce
  split
  · split
    · exact .inl rfl
    · exact .inr (.inr rfl)
  · exact .inr (.inl rfl)

/-- The error of a call with one height, with two. -/
noncomputable def e1 (x : Nat → Int) (h : Int) : Int := er x [wi h]
noncomputable def e2 (x : Nat → Int) (c h : Int) : Int := er x [wi c, wi h]
theorem e1_zero {x : Nat → Int} {h : Int} (he : e1 x h = 0) : ce x = 0 ∧ 1 ≤ h ∧ h ≤ 4294967296 := by
  obtain ⟨h1, h2⟩ := er_zero he
  rw [fo1] at h2
  rcases wi_cases h with h3 | h3
  · exact ⟨h1, h3.2⟩
  · omega
theorem e1_ok {x : Nat → Int} {h : Int} (h0 : ce x = 0) (h1 : 1 ≤ h) (h2 : h ≤ 4294967296) : e1 x h = 0 := er_ok h0 (by rw [fo1]; unfold wi; rw [if_pos ⟨h1, h2⟩])
theorem e2_zero {x : Nat → Int} {c h : Int} (he : e2 x c h = 0) : ce x = 0 ∧ 1 ≤ c ∧ c ≤ 4294967296 ∧ 1 ≤ h ∧ h ≤ 4294967296 := by
  obtain ⟨h1, h2⟩ := er_zero he
  obtain ⟨h3, h4⟩ := fo2 h2
  rcases wi_cases h with h5 | h5
  · rcases wi_cases c with h6 | h6
    · exact ⟨h1, h6.2.1, h6.2.2, h5.2⟩
    · omega
  · omega
theorem e2_ok {x : Nat → Int} {c h : Int} (h0 : ce x = 0) (h1 : 1 ≤ c) (h2 : c ≤ 4294967296) (h3 : 1 ≤ h) (h4 : h ≤ 4294967296) : e2 x c h = 0 := by
  refine er_ok h0 ?_
  simp [fo, wi, h1, h2, h3, h4]
/-- The error of First and Last. -/
noncomputable def eF (x : Nat → Int) (e : Int) : Int := if er x [we e] = 0 then wi (e * x 2 + 1) else er x [we e]
noncomputable def epN (x : Nat → Int) (h : Int) : Int := if e1 x h = 0 then (h - 1) / x 2 else 0
noncomputable def lowN (x : Nat → Int) (h : Int) : Int := if e1 x h = 0 then max ((h - 1) / x 2 - x 3 + 1) 0 else 0
noncomputable def flN (x : Nat → Int) (h : Int) : Int := if e1 x h = 0 then max (h - x 3 * x 2 + 1) 1 else 0
noncomputable def unN (x : Nat → Int) (h : Int) : Int := if e1 x h = 0 then h + x 6 else 0
noncomputable def fiN (x : Nat → Int) (e : Int) : Int := if eF x e = 0 then e * x 2 + 1 else 0
noncomputable def laN (x : Nat → Int) (e : Int) : Int := if eF x e = 0 then min ((e + 1) * x 2) 4294967296 else 0
noncomputable def ripB (x : Nat → Int) (c h : Int) : Bool := decide (e2 x c h = 0) && decide (h - c ≥ x 0)
noncomputable def aliB (x : Nat → Int) (c h : Int) : Bool := decide (e2 x c h = 0) && decide (h - c ≤ x 0)
noncomputable def notB (x : Nat → Int) (g h : Int) : Bool := decide (e2 x g h = 0) && decide (g ≤ h) && decide (h - g < x 9)
noncomputable def agN (x : Nat → Int) (g h : Int) : Int := if e2 x g h = 0 then (if g > h then 17 else if h - g > x 1 then 16 else 0) else e2 x g h
end Pd
end Go.Proofs.Ytlhahjpjlahdiaa
end

section
/-
  What the small calls of layer 8 answer: within, a height's check, epoch and since, the first error of a list; the statements' num, yes and chapter. Conditions: the numbers are of their kinds.
-/
namespace Go.Proofs.Ytlhahjpjlahdiaa
open Go.RowKit Go.Shelf
set_option linter.unusedVariables false
namespace Pd
open Kk Pm

theorem wrapI (n : Int) (h0 : -9223372036854775808 ≤ n) (h1 : n ≤ 9223372036854775807) : IntKind.i64.wrap n = n := by
  simp [IntKind.wrap, IntKind.bits, IntKind.signed]
  omega
def rg (l m n : Int) : Int := if l ≤ n ∧ n ≤ m then 0 else 3
/-- What num and yes answer. -/
def nu (n a : Int) : Int := if a = 0 then n else -a
def ye (b : Bool) (a : Int) : Int := if a = 0 then (if b = true then 1 else 0) else -a

set_option maxRecDepth 100000 in
set_option maxHeartbeats 1000000 in
theorem within (n l m : Int) (w : World) : Calls Try.prog 43 #[.int .i64 n, .int .i64 l, .int .i64 m] w fun e w' => e = .returned (.int .i64 (rg l m n)) ∧ w = w' := by
  by_cases h1 : l ≤ n
  · by_cases h2 : n ≤ m
    · have HB := Lib.hid (show rg l m n = 0 from if_pos ⟨h1, h2⟩)
      go_enter Try.func43, Try.ntmps43
      go_wp2
      go_ret
      exact ⟨by rw [HB.out]; rfl, rfl⟩
    · have HB := Lib.hid (show rg l m n = 3 from if_neg (by omega))
      go_enter Try.func43, Try.ntmps43
      go_wp2
      go_ret
      exact ⟨by rw [HB.out]; rfl, rfl⟩
  · have HB := Lib.hid (show rg l m n = 3 from if_neg (by omega))
    go_enter Try.func43, Try.ntmps43
    go_wp2
    go_ret
    exact ⟨by rw [HB.out]; rfl, rfl⟩

set_option maxRecDepth 100000 in
set_option maxHeartbeats 1000000 in
theorem checkH (h : Int) (w : World) : Calls Try.prog 34 #[.int .i64 h] w fun e w' => e = .returned (.int .i64 (wi h)) ∧ w = w' := by
  go_enter Try.func34, Try.ntmps34
  go_wp2_with fail
  refine (within h 1 4294967296 w).mono ?_
  rintro e w1 ⟨rfl, rfl⟩
  obtain ⟨c, hc⟩ : ∃ c, rg 1 4294967296 h = c := ⟨_, rfl⟩
  rw [hc]
  have HC := Lib.hid (show wi h = c from hc)
  clear hc
  go_wp2_with fail
  go_ret
  exact ⟨by rw [HC.out]; rfl, rfl⟩

set_option maxRecDepth 100000 in
set_option maxHeartbeats 1000000 in
theorem since (h c : Int) (w : World) (h1 : 1 ≤ h) (h2 : h ≤ 4294967296) (c1 : 1 ≤ c) (c2 : c ≤ 4294967296) : Calls Try.prog 38 #[.int .i64 h, .int .i64 c] w fun e w' => e = .returned (.int .i64 (h - c)) ∧ w = w' := by
  go_enter Try.func38, Try.ntmps38
  go_wp2
  go_ret
  exact ⟨rfl, rfl⟩

set_option maxRecDepth 100000 in
set_option maxHeartbeats 1000000 in
theorem epoch (x : Nat → Int) (h : Int) (w : World) (h1 : 1 ≤ h) (h2 : h ≤ 4294967296) (l1 : 1 ≤ x 2) (l2 : x 2 ≤ 1000) : Calls Try.prog 35 #[.int .i64 h, .agg (recC x).toArray] w fun e w' => e = .returned (.int .i64 ((h - 1) / x 2)) ∧ Bel w w' := by
  obtain ⟨W, hW⟩ : ∃ W, w.alloc (.cells (recC x).toArray 40) = W := ⟨_, rfl⟩
  have B0 := Lib.hid (show Bel w W by rw [← hW]; exact (Bel.refl w).alloc _)
  have c2 := rec_cell (w := W) (p := w.heap.size) (x := x) (by rw [← hW]; exact rngB (Blk.new w _ _)) 2 (by omega)
  rw [show kd 2 = .i64 from rfl] at c2
  obtain ⟨D, hD⟩ : ∃ D, (recC x).toArray = D := ⟨_, rfl⟩
  rw [hD] at hW ⊢
  have HW := Lib.hid hW
  obtain ⟨n, hn⟩ : ∃ n, x 2 = n := ⟨_, rfl⟩
  rw [hn] at c2 l1 l2
  have HN := Lib.hid hn
  have q0 : (h - 1).tdiv n = (h - 1) / n := Int.tdiv_eq_ediv_of_nonneg (by omega)
  have q1 : 0 ≤ (h - 1) / n := Int.ediv_nonneg (by omega) (by omega)
  have q2 : (h - 1) / n ≤ h - 1 := Int.ediv_le_self _ (by omega)
  obtain ⟨q, hq⟩ : ∃ q, (h - 1) / n = q := ⟨_, rfl⟩
  rw [hq] at q0 q1 q2
  have HQ := Lib.hid hq
  have n0 : n ≠ 0 := by omega
  clear hW hD hn hq
  go_enter Try.func35, Try.ntmps35
  go_upto_region 1 with fail
  rw [HW.out]
  go_wp2
  go_ret
  exact ⟨by rw [HN.out, HQ.out]; rfl, B0.out⟩

theorem getD_fo {zs : List Int} {k : Nat} (h : ∀ j, j < k → zs.getD j 0 = 0) : fo zs = fo (zs.drop k) := by
  induction k with
  | zero => simp
  | succ k ih =>
    rw [ih (fun j hj => h j (by omega))]
    by_cases hk : k < zs.length
    · rw [List.drop_eq_getElem_cons hk]
      have := h k (by omega)
      rw [getD_eq _ _ hk] at this
      simp [fo, this]
    · rw [List.drop_eq_nil_iff.2 (by omega), List.drop_eq_nil_iff.2 (by omega)]

set_option maxRecDepth 100000 in
set_option maxHeartbeats 1000000 in
theorem firstOf (A : Option Addr) (n c : Nat) (zs : List Int) (w : World) (hn : n ≤ 1000) (hi : Ints .i64 w A n zs) : Calls Try.prog 42 #[.slice A n c] w fun e w' => e = .returned (.int .i64 (fo zs)) ∧ w = w' := by
  have HI := Lib.hid hi
  have HL := Lib.hid hi.1
  clear hi
  go_enter Try.func42, Try.ntmps42
  go_wp2_with fail
  go_loop [7] (fun u7 => ∃ k : Nat, u7 = .int .i64 k ∧ k ≤ n ∧ (∀ j, j < k → zs.getD j 0 = 0)) (fun u7 => n - (intOf u7).toNat)
  case atStart => exact ⟨0, rfl, by omega, fun j hj => by omega⟩
  case round =>
    obtain ⟨k, rfl, hk, hall⟩ := hrel
    have HA := Lib.hid hall
    clear hall
    by_cases hlt : k < n
    · obtain ⟨b, o, rfl, _, hc⟩ := HI.out.cell hlt
      obtain ⟨v, hv⟩ : ∃ v, zs.getD k 0 = v := ⟨_, rfl⟩
      rw [hv] at hc
      have HV := Lib.hid hv
      clear hv
      by_cases h0 : v = 0
      · subst h0
        go_wp2_with fail
        refine ⟨⟨k + 1, by go_num, by omega, fun j hj => ?_⟩, ?_⟩
        · by_cases e : j = k
          · rw [e]; exact HV.out
          · exact HA.out j (by omega)
        · simp [intOf]; omega
      · go_wp2_with fail
        go_ret
        refine ⟨?_, rfl⟩
        rw [getD_fo HA.out, List.drop_eq_getElem_cons (by rw [HL.out]; exact hlt)]
        have := HV.out
        rw [getD_eq _ _ (by rw [HL.out]; exact hlt)] at this
        simp [fo, this, h0]
    · obtain rfl : k = n := by omega
      go_wp2_with fail
      go_ret
      refine ⟨?_, rfl⟩
      rw [getD_fo HA.out, List.drop_eq_nil_iff.2 (by rw [HL.out]; omega)]
      rfl

set_option maxRecDepth 100000 in
set_option maxHeartbeats 1000000 in
theorem num (n a : Int) (w : World) (ha : 0 ≤ a ∧ a ≤ 100) : Calls Try.prog 30 #[.int .i64 n, .int .i64 a] w fun e w' => e = .returned (.int .i64 (nu n a)) ∧ w = w' := by
  by_cases h : a = 0
  · subst h
    go_enter Try.func30, Try.ntmps30
    go_wp2
    go_ret
    exact ⟨rfl, rfl⟩
  · have HB := Lib.hid (show nu n a = -a from if_neg h)
    go_enter Try.func30, Try.ntmps30
    go_wp2
    go_ret
    exact ⟨by rw [HB.out]; rfl, rfl⟩

set_option maxRecDepth 100000 in
set_option maxHeartbeats 1000000 in
theorem yes (b : Bool) (a : Int) (w : World) (ha : 0 ≤ a ∧ a ≤ 100) : Calls Try.prog 31 #[.bool b, .int .i64 a] w fun e w' => e = .returned (.int .i64 (ye b a)) ∧ w = w' := by
  cases b with
  | true =>
    go_enter Try.func31, Try.ntmps31
    go_wp2_with fail
    refine (num 1 a w ha).mono ?_
    rintro e w1 ⟨rfl, rfl⟩
    go_wp2_with fail
    go_ret
    exact ⟨rfl, rfl⟩
  | false =>
    go_enter Try.func31, Try.ntmps31
    go_wp2_with fail
    refine (num 0 a w ha).mono ?_
    rintro e w1 ⟨rfl, rfl⟩
    go_wp2_with fail
    go_ret
    exact ⟨rfl, rfl⟩

set_option maxRecDepth 100000 in
set_option maxHeartbeats 1000000 in
theorem chapter (w : World) : Calls Try.prog 29 #[] w (RecE dv w) := by
  have HE := Lib.hid (show (recC dv).toArray = #[.int .i64 100, .int .i64 100, .int .i64 10, .int .i64 8, .int .i64 7, .int .i64 8, .int .i64 20, .int .u64 50000000, .int .u64 3, .int .i64 50, .int .u64 100000000] from rfl)
  obtain ⟨E, hE⟩ : ∃ E, E = recC dv := ⟨_, rfl⟩
  rw [← hE] at HE
  obtain ⟨t1, t2⟩ := store_rec (z := dv) (y := fun _ => 0) (Blk.new w _ _)
  rw [← hE] at t1 t2
  have T1 := Lib.hid t1
  have T2 := Lib.hid t2
  have EI := Lib.hid (show (Try.prog.info? 24).map (·.size) = some E.length by rw [hE]; exact info_rec)
  have EI2 := Lib.hid (show (Try.prog.info? 24).map (·.size) = some E.toArray.size by rw [hE]; exact info_rec)
  have EO := Lib.hid (all_oneCell_toArray (cs := E) (by rw [hE]; exact recC_cells _))
  have HE2 := Lib.hid hE
  clear t1 t2 hE
  go_enter Try.func29, Try.ntmps29
  go_wp2_with (refine wpList_store_mid rfl 24 (.tmp 0) (.tmp 1) rfl w.heap.size 0 E.toArray rfl (by rw [HE.out]; rfl) T1.out EI2.out EO.out ?_)
  refine bodyPost_ret (res_c Try.results29 _ _ ⟨w.heap.size, 0, none⟩ (.agg E.toArray) rfl (load_b T2.out Try.underlying24 rfl EI.out)) rfl ⟨by rw [HE2.out], bel_setCells ((Bel.refl w).alloc _) (Nat.le_refl _) 0 E⟩
end Pd
end Go.Proofs.Ytlhahjpjlahdiaa
end

section
/-
  What period.check answers: the record and no error, or the first error. Conditions: the eleven numbers are of their kinds; at most 1000 errors come with it.
-/
namespace Go.Proofs.Ytlhahjpjlahdiaa
open Go.RowKit Go.Shelf
set_option linter.unusedVariables false
namespace Pd
open Kk Pm

/-- The record, or zeros. -/
def yz (x : Nat → Int) (a : Int) : Nat → Int := if a = 0 then x else fun _ => 0
theorem yz_zero (x : Nat → Int) : yz x 0 = x := if_pos rfl
theorem yz_not (x : Nat → Int) {a : Int} (h : a ≠ 0) : yz x a = fun _ => 0 := if_neg h
theorem info_chd : (Try.prog.info? 40).map (·.size) = some 11 := by kernel_rfl
abbrev ZC : Obj := .cells (recC fun _ => 0).toArray 40
theorem zc_rec : (recC fun _ => 0).toArray = #[.int .i64 0, .int .i64 0, .int .i64 0, .int .i64 0, .int .i64 0, .int .i64 0, .int .i64 0, .int .u64 0, .int .u64 0, .int .i64 0, .int .u64 0] := rfl
theorem lit1 (w : World) (a : Int) : Ints .i64 (w.alloc (.cells #[.int .i64 a] 25)) (some ⟨w.heap.size, 0, none⟩) 1 [a] :=
  ⟨rfl, fun _ => ⟨w.heap.size, 0, rfl, by rw [World.size_alloc]; omega, fun i hi => by
    obtain rfl : i = 0 := by omega
    exact (Blk.new w _ _).cell 0 rfl⟩⟩
theorem lit2 (w : World) (a b : Int) (t : TypeId) : Ints .i64 (w.alloc (.cells #[.int .i64 a, .int .i64 b] t)) (some ⟨w.heap.size, 0, none⟩) 2 [a, b] :=
  ⟨rfl, fun _ => ⟨w.heap.size, 0, rfl, by rw [World.size_alloc]; omega, fun i hi => by
    match i, hi with
    | 0, _ => exact (Blk.new w _ _).cell 0 rfl
    | 1, _ => exact (Blk.new w _ _).cell 1 rfl⟩⟩

theorem put11 (w : World) (Y : List Value) (hl : Y.length = 11) {g : Nat} {C : Array Value} (hC : C.size = 11) (hb : Blk w g C 40) : w.there g 0 Y.toArray.size ∧ Blk (w.setCells g 0 Y) g Y.toArray 40 :=
  ⟨bthere hb 0 _ (by simp [hl, hC]), bwhole hb (by simp [hl, hC])⟩

theorem lit1a (w : World) (a : Int) : Ints .i64 (w.alloc (.cells #[.int .i64 a] 25)).drew (some ⟨w.heap.size, 0, none⟩) 1 [a] := (lit1 w a).bel (Bel.refl _).drew
theorem lit1b (w : World) (a : Int) (o : Obj) : Ints .i64 ((w.alloc (.cells #[.int .i64 a] 25)).alloc o).drew (some ⟨w.heap.size, 0, none⟩) 1 [a] := (lit1 w a).bel ((Bel.refl _).alloc o).drew
theorem lit1c (w : World) (a : Int) (o : Obj) : Ints .i64 ((w.alloc o).alloc (.cells #[.int .i64 a] 25)).drew (some ⟨w.heap.size + 1, 0, none⟩) 1 [a] := by
  have h := (lit1 (w.alloc o) a).bel (Bel.refl _).drew
  rwa [World.size_alloc] at h
/-- The world behind a stored record. -/
theorem put_S {W w : World} {p g : Nat} {D Y : List Value} (hr : w.rangeAt p 0 D) (hb : Bel W w) (hg : W.heap.size ≤ g) (hl : Y.length = 11) (h : Blk w g (recC fun _ => 0).toArray 40) (hp : p < W.heap.size := by assumption) :
    (w.setCells g 0 Y.toArray.toList).rangeAt p 0 D ∧ Bel W (w.setCells g 0 Y.toArray.toList) :=
  ⟨rng_kep hr (kep_setCells g _ 0 w) (show ¬ p = g by omega), bel_setCells hb hg 0 _⟩
theorem put_E {W w : World} {p g : Nat} {D Y : List Value} (hr : w.rangeAt p 0 D) (hb : Bel W w) (hg : W.heap.size ≤ g) (hl : Y.length = 11) (h : Blk w g (recC fun _ => 0).toArray 40) (hp : p < W.heap.size := by assumption) :
    Hid ((w.setCells g 0 Y.toArray.toList).rangeAt p 0 D ∧ (w.setCells g 0 Y.toArray.toList).rangeAt g 0 Y ∧ Bel W (w.setCells g 0 Y.toArray.toList)) :=
  Lib.hid ⟨(put_S hr hb hg hl h).1, rngB (bwhole h (by rw [List.toList_toArray, hl]; rfl)), (put_S hr hb hg hl h).2⟩

set_option maxRecDepth 100000 in
set_option maxHeartbeats 2000000 in
theorem check_ (x : Nat → Int) (hx : Kinds x) (A : Option Addr) (n c : Nat) (zs : List Int) (w : World) (hn : n ≤ 1000) (hi : Ints .i64 w A n zs) :
    Calls Try.prog 33 #[.agg (recC x).toArray, .slice A n c] w fun e w' => e = .returned (.tuple #[.agg (recC (yz x (er x zs))).toArray, .int .i64 (er x zs)]) ∧ Bel w w' := by
  obtain ⟨D, hD⟩ : ∃ D, D = recC x := ⟨_, rfl⟩
  obtain ⟨W0, hW0⟩ : ∃ W0, w.alloc (.cells D.toArray 24) = W0 := ⟨_, rfl⟩
  have B0 := Lib.hid (show Bel w W0 by rw [← hW0]; exact (Bel.refl w).alloc _)
  have R0 := Lib.hid (show W0.rangeAt w.heap.size 0 D by rw [← hW0]; exact rngB (Blk.new w D.toArray 24))
  obtain ⟨W, hW⟩ : ∃ W, W0.alloc ZC = W := ⟨_, rfl⟩
  have B1 := Lib.hid (show Bel W0 W by rw [← hW]; exact (Bel.refl W0).alloc _)
  have G1 := Lib.hid (show Blk W W0.heap.size (recC fun _ => 0).toArray 40 by rw [← hW]; exact Blk.new W0 _ _)
  have hsz : W0.heap.size = w.heap.size + 1 := by rw [← hW0, World.size_alloc]
  have R1 := Lib.hid (rng_bel R0.out B1.out)
  obtain ⟨p, hp⟩ : ∃ p, w.heap.size = p := ⟨_, rfl⟩
  rw [hp] at R1
  have hps := Lib.hid (show w.heap.size ≤ W0.heap.size by omega)
  obtain ⟨g, hg⟩ : ∃ g, W0.heap.size = g := ⟨_, rfl⟩
  rw [hg] at G1
  have HG0 := Lib.hid (show w.heap.size ≤ g by omega)
  have HDl := Lib.hid (show D.length = 11 by rw [hD]; rfl)
  have CK := Lib.hid (check x hx)
  have HI := Lib.hid (hi.bel (B0.out.trans B1.out))
  rw [← hD] at CK
  have HD := Lib.hid hD
  rw [← hD]
  have HX := Lib.hid hx
  have HP := Lib.hid hp
  have HG := Lib.hid (show p + 1 = g by omega)
  have HW0 := Lib.hid hW0
  have HW := Lib.hid (show W0.alloc (.cells #[.int .i64 0, .int .i64 0, .int .i64 0, .int .i64 0, .int .i64 0, .int .i64 0, .int .i64 0, .int .u64 0, .int .u64 0, .int .i64 0, .int .u64 0] 40) = W from hW)
  clear hx hp hD hW hW0 hg hi hsz hps
  go_enter Try.func33, Try.ntmps33
  go_upto_region 1 with fail
  rw [HW0.out, HW.out, HP.out, HG.out]
  go_wp2_with (refine wpList_load_mid rfl 24 (.tmp 2) rfl p 0 rfl D _ R1.out Try.underlying24 rfl (by rw [HDl.out]; exact info_rec) ?_)
  refine (CK.out W).mono ?_
  rintro e w1 ⟨a, b, rfl, hC, k1⟩
  have HA := Lib.hid (ce_of hC)
  have B2 : Hid (Bel W w1) := Lib.hid k1
  have I1 := Lib.hid (HI.out.bel k1)
  clear k1 hC
  go_wp2_with fail
  refine (firstOf A n c zs w1 hn I1.out).mono ?_
  rintro e w2 ⟨rfl, rfl⟩
  obtain ⟨f, hf⟩ : ∃ f, fo zs = f := ⟨_, rfl⟩
  rw [hf]
  have HF := Lib.hid hf
  clear hf
  go_wp2_with fail
  obtain ⟨w3, hw3⟩ : ∃ w3, w1.alloc (.cells #[.int .i64 a, .int .i64 f] 25) = w3 := ⟨_, rfl⟩
  have L := lit2 w1 a f 25
  rw [hw3] at L ⊢
  have B3 := Lib.hid (show Bel w1 w3 by rw [← hw3]; exact (Bel.refl w1).alloc _)
  clear hw3
  refine (firstOf _ 2 2 [a, f] w3 (by omega) L).mono ?_
  rintro e w4 ⟨rfl, rfl⟩
  clear L
  obtain ⟨q, hq⟩ : ∃ q, fo [a, f] = q := ⟨_, rfl⟩
  rw [hq]
  have HQ := Lib.hid (show er x zs = q by rw [← hq]; unfold er; rw [← HA.out, HF.out])
  clear hq
  have R3 := Lib.hid (rng_bel (rng_bel R1.out B2.out) B3.out)
  have G3 := Lib.hid ((G1.out.bel B2.out).bel B3.out)
  have BB := Lib.hid ((((B0.out.trans B1.out).trans B2.out)).trans B3.out)
  have EI := Lib.hid info_chd
  by_cases h0 : q = 0
  · obtain ⟨Y, hY⟩ : ∃ Y, Y = recC x := ⟨_, rfl⟩
    obtain ⟨t1, t2⟩ := put11 w3 Y (by rw [hY]; rfl) (by rfl) G3.out
    have T1 := Lib.hid t1
    have T2 := Lib.hid t2
    have YL := Lib.hid (show Y.length = 11 by rw [hY]; rfl)
    have YS := Lib.hid (show Y.toArray.size = 11 by rw [hY]; rfl)
    have YO := Lib.hid (all_oneCell_toArray (cs := Y) (by rw [hY]; exact recC_cells _))
    clear t1 t2
    have HY := Lib.hid hY
    clear hY
    subst h0
    go_upto_region 5 with fail
    have HE := Lib.hid (show D.toArray = #[.int .i64 (x 0), .int .i64 (x 1), .int .i64 (x 2), .int .i64 (x 3), .int .i64 (x 4), .int .i64 (x 5), .int .i64 (x 6), .int .u64 (x 7), .int .u64 (x 8), .int .i64 (x 9), .int .u64 (x 10)] by rw [HD.out]; rfl)
    go_wp2_with (first | (refine wpList_load_mid rfl 24 (.tmp 2) rfl p 0 rfl D _ R3.out Try.underlying24 rfl (by rw [HDl.out]; exact info_rec) ?_; rw [HE.out]) | (refine wpList_store_mid rfl 40 (.tmp 4) (.tmp 24) rfl g 0 Y.toArray rfl (by rw [HY.out]; rfl) T1.out (by rw [YS.out]; exact EI.out) YO.out ?_))
    refine bodyPost_ret (res_ci Try.results33 _ _ ⟨g, 0, none⟩ (.agg Y.toArray) (.int .i64 0) rfl rfl (load_b T2.out Try.underlying40 rfl (by rw [YL.out]; exact EI.out))) rfl ⟨?_, bel_setCells BB.out HG0.out 0 Y⟩
    rw [HQ.out]
    rw [HY.out, yz_zero]
  · obtain ⟨Y, hY⟩ : ∃ Y, Y = recC fun _ => 0 := ⟨_, rfl⟩
    obtain ⟨t1, t2⟩ := put11 w3 Y (by rw [hY]; rfl) (by rfl) G3.out
    have T1 := Lib.hid t1
    have T2 := Lib.hid t2
    have YL := Lib.hid (show Y.length = 11 by rw [hY]; rfl)
    have YS := Lib.hid (show Y.toArray.size = 11 by rw [hY]; rfl)
    have YO := Lib.hid (all_oneCell_toArray (cs := Y) (by rw [hY]; exact recC_cells _))
    clear t1 t2
    have HY := Lib.hid (show Y.toArray = #[.int .i64 0, .int .i64 0, .int .i64 0, .int .i64 0, .int .i64 0, .int .i64 0, .int .i64 0, .int .u64 0, .int .u64 0, .int .i64 0, .int .u64 0] by rw [hY]; rfl)
    clear hY
    go_upto_region 4 with fail
    go_wp2_with (refine wpList_store_mid rfl 40 (.tmp 4) (.tmp 21) rfl g 0 Y.toArray rfl (by rw [HY.out]; rfl) T1.out (by rw [YS.out]; exact EI.out) YO.out ?_)
    refine bodyPost_ret (res_ci Try.results33 _ _ ⟨g, 0, none⟩ (.agg Y.toArray) (.int .i64 q) rfl rfl (load_b T2.out Try.underlying40 rfl (by rw [YL.out]; exact EI.out))) rfl ⟨?_, bel_setCells BB.out HG0.out 0 Y⟩
    rw [HQ.out]
    rw [HY.out, yz_not x h0]; rfl
end Pd
end Go.Proofs.Ytlhahjpjlahdiaa
end

section
/-
  What period.Epoch, Low, Floor and Until answer. Conditions: the eleven numbers are of their kinds.
-/
namespace Go.Proofs.Ytlhahjpjlahdiaa
open Go.RowKit Go.Shelf
set_option linter.unusedVariables false
namespace Pd
open Kk Pm

set_option maxRecDepth 100000 in
set_option maxHeartbeats 4000000 in
theorem epochC (x : Nat → Int) (hx : Kinds x) (h : Int) (w : World) :
    Calls Try.prog 8 #[.agg (recC x).toArray, .int .i64 h] w fun e w' => e = .returned (.tuple #[.int .i64 (epN x h), .int .i64 (e1 x h)]) ∧ Bel w w' := by
  obtain ⟨D, hD⟩ : ∃ D, D = recC x := ⟨_, rfl⟩
  obtain ⟨W0, hW0⟩ : ∃ W0, w.alloc (.cells D.toArray 24) = W0 := ⟨_, rfl⟩
  have B0 := Lib.hid (show Bel w W0 by rw [← hW0]; exact (Bel.refl w).alloc _)
  have R0 := Lib.hid (show W0.rangeAt w.heap.size 0 D by rw [← hW0]; exact rngB (Blk.new w D.toArray 24))
  obtain ⟨p, hp⟩ : ∃ p, w.heap.size = p := ⟨_, rfl⟩
  have hp1 := Lib.hid (show p < W0.heap.size by rw [← hW0, ← hp, World.size_alloc]; omega)
  rw [hp] at R0
  have hDl : D.length = 11 := by rw [hD]; rfl
  obtain ⟨c0, hc0⟩ : ∃ k_, wi h = k_ := ⟨_, rfl⟩
  obtain ⟨q, hq⟩ : ∃ q, er x [c0] = q := ⟨_, rfl⟩
  obtain ⟨Y, hY⟩ : ∃ Y, recC (yz x q) = Y := ⟨_, rfl⟩
  have HC0 := Lib.hid (fun V => checkH h V)
  rw [hc0] at HC0
  have CK := Lib.hid (fun (V : World) (g : Nat) (hi : Ints .i64 V (some ⟨g, 0, none⟩) 1 [c0]) => check_ x hx (some ⟨g, 0, none⟩) 1 1 [c0] V (by omega) hi)
  rw [hq, hY, ← hD] at CK
  rw [← hD]
  have iD : (Try.prog.info? 24).map (·.size) = some D.length := by rw [hDl]; exact info_rec
  have uD := Try.underlying24
  have YL := Lib.hid (show Y.length = 11 by rw [← hY]; rfl)
  have YO := Lib.hid (all_oneCell_toArray (cs := Y) (by rw [← hY]; exact recC_cells _))
  have HDl := Lib.hid hDl
  have HX := Lib.hid hx
  have HP := Lib.hid hp
  have HW0 := Lib.hid hW0
  have HQ := Lib.hid (show e1 x h = q by rw [← hq, ← hc0]; rfl)
  have HY := Lib.hid hY
  have HD := Lib.hid hD
  clear hx hp hD hW0 hq hY hDl hc0
  go_enter Try.func8, Try.ntmps8
  go_upto_region 1 with fail
  rw [HW0.out, HP.out]
  have KEEP := Lib.hid (show ∀ V V' : World, (V.rangeAt p 0 D ∧ Bel W0 V) → Bel V V' → (V'.rangeAt p 0 D ∧ Bel W0 V') from fun V V' h hb => ⟨rng_bel h.1 hb, h.2.trans hb⟩)
  go_cut [6, 7] (fun s6 s7 wx => ∃ g : Nat, s6 = .pointer (some ⟨g, 0, none⟩) ∧ s7 = .int .i64 q ∧ Hid (wx.rangeAt p 0 D ∧ wx.rangeAt g 0 Y ∧ Bel W0 wx))
  case first =>
    refine wp_region_held_drew (S := fun V => V.rangeAt p 0 D ∧ Bel W0 V) (by kernel_rfl) ⟨rng_bel R0.out (Bel.refl W0).drew, (Bel.refl W0).drew⟩ (fun hS0 => ?_)
    obtain ⟨w6, hw6⟩ : ∃ w6, W0.drew = w6 := ⟨_, rfl⟩
    rw [hw6] at hS0 ⊢
    clear hw6
    have hp1 := hp1.out
    refine wpAnyH_take (i := 0) (oi := { dst := some 9, op := .load 24 (.tmp 2), type := 24, pos := "period.go:8", after := #[], guard := none }) (v := .agg D.toArray) rfl (by kernel_rfl) (by kernel_rfl) (by kernel_rfl) (fun _ _ _ h => h) (yieldsIf_load_mid (by rfl) _ _ rfl _ _ rfl _ _ (fun w h => h.1) uD rfl iD) hS0 ?_
    try simp only [Act.put, List.setIfInBounds_toArray, List.set_cons_zero, List.set_cons_succ]
    refine wpAnyH_take (i := 1) (oi := { dst := some 10, op := .move (.tmp 1), type := 3, pos := "period.go:8", after := #[], guard := none }) (v := .int .i64 h) rfl (by kernel_rfl) (by kernel_rfl) (by kernel_rfl) (fun _ _ _ h => h) (Or.inl ⟨by rfl, by intro w hSw; clear hSw; go_simp⟩) hS0 ?_
    try simp only [Act.put, List.setIfInBounds_toArray, List.set_cons_zero, List.set_cons_succ]
    refine wpAnyH_ready (rs := [2, 8]) (by kernel_rfl) (by simp) ?_
    refine AllReadyH.cons (o := { dst := some 11, op := .call { callee := .value (.func 34), args := #[.tmp 10], argTypes := #[43] }, type := 25, pos := "period.go:8", after := #[{ on := 1, ground := .data }], guard := none }) rfl (fun K hK => ?_) (AllReadyH.cons (o := { dst := some 6, op := .alloc 40, type := 0, pos := "period.go:8", after := #[], guard := none }) rfl (fun K hK => ?_) AllReadyH.nil)
    · go_simp
      refine (HC0.out _).mono ?_
      rintro e v1 ⟨rfl, rfl⟩
      go_wp2_with fail
      refine hK.out _ _ hS0 (fun _ => ?_)
      clear hK K
      try simp only [Act.put, List.setIfInBounds_toArray, List.set_cons_zero, List.set_cons_succ]
      refine wpAnyH_ready (rs := [3, 8]) (by kernel_rfl) (by simp) ?_
      refine AllReadyH.cons (o := { dst := some 12, op := .buildSlice 59 1 #[(0, .tmp 11)], type := 59, pos := "period.go:8", after := #[{ on := 2, ground := .data }], guard := none }) rfl (fun K hK => ?_) (AllReadyH.cons (o := { dst := some 6, op := .alloc 40, type := 0, pos := "period.go:8", after := #[], guard := none }) rfl (fun K hK => ?_) AllReadyH.nil)
      · go_simp
        have hS2 := KEEP.out _ _ hS0 ((Bel.refl w6).alloc (.cells #[.int .i64 c0] 25))
        refine hK.out _ _ hS2 (fun _ => ?_)
        clear hK K
        try simp only [Act.put, List.setIfInBounds_toArray, List.set_cons_zero, List.set_cons_succ]
        have L2 := lit1 w6 c0
        obtain ⟨b, hb⟩ : ∃ b, w6.heap.size = b := ⟨_, rfl⟩
        obtain ⟨v2, hv⟩ : ∃ v, w6.alloc (.cells #[.int .i64 c0] 25) = v := ⟨_, rfl⟩
        rw [hv] at hS2 L2 ⊢
        rw [hb] at L2 ⊢
        clear hb hv
        refine wpAnyH_ready (rs := [4, 8]) (by kernel_rfl) (by simp) ?_
        refine AllReadyH.cons (o := { dst := some 13, op := .call { callee := .value (.func 33), args := #[.tmp 9, .tmp 12], argTypes := #[24, 59] }, type := 41, pos := "period.go:8", after := #[{ on := 0, ground := .data }, { on := 3, ground := .data }, { on := 2, ground := .chain }], guard := none }) rfl (fun K hK => ?_) (AllReadyH.cons (o := { dst := some 6, op := .alloc 40, type := 0, pos := "period.go:8", after := #[], guard := none }) rfl (fun K hK => ?_) AllReadyH.nil)
        · go_simp
          refine (CK.out _ _ L2).mono ?_
          rintro e v3 ⟨rfl, k3⟩
          go_wp2_with fail
          have hS3 := KEEP.out _ _ hS2 k3
          refine hK.out _ _ hS3 (fun _ => ?_)
          clear hK K
          try simp only [Act.put, List.setIfInBounds_toArray, List.set_cons_zero, List.set_cons_succ]
          clear k3
          refine wpAnyH_take (i := 5) (oi := { dst := some 8, op := .move (.tmp 13), type := 41, pos := "period.go:8", after := #[{ on := 4, ground := .data }], guard := none }) (v := .tuple #[.agg Y.toArray, .int .i64 q]) rfl (by kernel_rfl) (by kernel_rfl) (by kernel_rfl) (fun _ _ _ h => h) (Or.inl ⟨by rfl, by intro w hSw; clear hSw; go_simp⟩) hS3 ?_
          try simp only [Act.put, List.setIfInBounds_toArray, List.set_cons_zero, List.set_cons_succ]
          refine wpAnyH_take (i := 6) (oi := { dst := some 14, op := .extract (.tmp 8) 0, type := 40, pos := "period.go:8", after := #[{ on := 5, ground := .data }], guard := none }) (v := .agg Y.toArray) rfl (by kernel_rfl) (by kernel_rfl) (by kernel_rfl) (fun _ _ _ h => h) (Or.inl ⟨by rfl, by intro w hSw; clear hSw; go_simp⟩) hS3 ?_
          try simp only [Act.put, List.setIfInBounds_toArray, List.set_cons_zero, List.set_cons_succ]
          refine wpAnyH_take (i := 7) (oi := { dst := some 15, op := .extract (.tmp 8) 1, type := 25, pos := "period.go:8", after := #[{ on := 5, ground := .data }, { on := 9, ground := .gcOnly .lateStores }], guard := none }) (v := .int .i64 q) rfl (by kernel_rfl) (by kernel_rfl) (by kernel_rfl) (fun _ _ _ h => h) (Or.inl ⟨by rfl, by intro w hSw; clear hSw; go_simp⟩) hS3 ?_
          try simp only [Act.put, List.setIfInBounds_toArray, List.set_cons_zero, List.set_cons_succ]
          refine wpAnyH_ready (rs := [8]) (by kernel_rfl) (by simp) ?_
          refine AllReadyH.cons (o := { dst := some 6, op := .alloc 40, type := 0, pos := "period.go:8", after := #[], guard := none }) rfl (fun K hK => ?_) AllReadyH.nil
          go_simp
          have hS4 := KEEP.out _ _ hS3 ((Bel.refl v3).alloc (.cells #[.int .i64 0, .int .i64 0, .int .i64 0, .int .i64 0, .int .i64 0, .int .i64 0, .int .i64 0, .int .u64 0, .int .u64 0, .int .i64 0, .int .u64 0] 40))
          refine hK.out _ _ hS4 (fun _ => ?_)
          clear hK K
          try simp only [Act.put, List.setIfInBounds_toArray, List.set_cons_zero, List.set_cons_succ]
          have G4 : Blk (v3.alloc (.cells #[.int .i64 0, .int .i64 0, .int .i64 0, .int .i64 0, .int .i64 0, .int .i64 0, .int .i64 0, .int .u64 0, .int .u64 0, .int .i64 0, .int .u64 0] 40)) v3.heap.size (recC fun _ => 0).toArray 40 := Blk.new v3 _ _
          have hg0 := Below.size hS3.2
          obtain ⟨g, hg⟩ : ∃ g, v3.heap.size = g := ⟨_, rfl⟩
          obtain ⟨v4, hv⟩ : ∃ v, v3.alloc (.cells #[.int .i64 0, .int .i64 0, .int .i64 0, .int .i64 0, .int .i64 0, .int .i64 0, .int .i64 0, .int .u64 0, .int .u64 0, .int .i64 0, .int .u64 0] 40) = v := ⟨_, rfl⟩
          rw [hv] at hS4 G4 ⊢
          rw [hg] at G4 hg0 ⊢
          clear hg hv
          refine wpAnyH_ready (rs := [9]) (by kernel_rfl) (by simp) ?_
          refine AllReadyH.cons (o := { dst := none, op := .store 40 (.tmp 6) (.tmp 14), type := 0, pos := "period.go:8", after := #[{ on := 8, ground := .data }, { on := 6, ground := .data }, { on := 4, ground := .chain }, { on := 0, ground := .phase }, { on := 1, ground := .phase }, { on := 2, ground := .phase }, { on := 3, ground := .phase }, { on := 4, ground := .phase }, { on := 5, ground := .phase }, { on := 6, ground := .phase }, { on := 7, ground := .textOnly .lateStores }, { on := 8, ground := .phase }], guard := none }) rfl (fun K hK => ?_) AllReadyH.nil
          rw [if_pos (by rfl)]
          refine wp_store_mid 40 (.tmp 6) (.tmp 14) rfl g 0 Y.toArray rfl rfl (put11 _ Y YL.out rfl G4).1 (by rw [List.size_toArray, YL.out]; exact info_chd) YO.out ?_
          refine hK.out _ _ (put_S hS4.1 hS4.2 hg0 YL.out G4) (fun hS5 => ?_)
          have E5 := put_E hS4.1 hS4.2 hg0 YL.out G4
          clear hK K
          try simp only [Act.put]
          refine wpAnyH_take (i := 10) (oi := { dst := some 7, op := .assign (.tmp 15), type := 25, pos := "period.go:8", after := #[{ on := 7, ground := .data }, { on := 9, ground := .chain }, { on := 0, ground := .phase }, { on := 1, ground := .phase }, { on := 2, ground := .phase }, { on := 3, ground := .phase }, { on := 4, ground := .phase }, { on := 5, ground := .phase }, { on := 6, ground := .phase }, { on := 7, ground := .phase }, { on := 8, ground := .phase }, { on := 9, ground := .phase }], guard := none }) (v := .int .i64 q) rfl (by kernel_rfl) (by kernel_rfl) (by kernel_rfl) (fun _ _ _ h => h) (Or.inl ⟨by rfl, by intro w hSw; clear hSw; go_simp⟩) hS5 ?_
          try simp only [Act.put, List.setIfInBounds_toArray, List.set_cons_zero, List.set_cons_succ]
          refine wpAnyH_done (by kernel_rfl) ?_ _
          go_wp2_with fail
          go_meet
          exact ⟨g, rfl, rfl, E5⟩
        · go_simp
          have hS6 := KEEP.out _ _ hS2 ((Bel.refl v2).alloc (.cells #[.int .i64 0, .int .i64 0, .int .i64 0, .int .i64 0, .int .i64 0, .int .i64 0, .int .i64 0, .int .u64 0, .int .u64 0, .int .i64 0, .int .u64 0] 40))
          refine hK.out _ _ hS6 (fun _ => ?_)
          clear hK K
          try simp only [Act.put, List.setIfInBounds_toArray, List.set_cons_zero, List.set_cons_succ]
          have G6 : Blk (v2.alloc (.cells #[.int .i64 0, .int .i64 0, .int .i64 0, .int .i64 0, .int .i64 0, .int .i64 0, .int .i64 0, .int .u64 0, .int .u64 0, .int .i64 0, .int .u64 0] 40)) v2.heap.size (recC fun _ => 0).toArray 40 := Blk.new v2 _ _
          have hg0 := Below.size hS2.2
          obtain ⟨g, hg⟩ : ∃ g, v2.heap.size = g := ⟨_, rfl⟩
          obtain ⟨v6, hv⟩ : ∃ v, v2.alloc (.cells #[.int .i64 0, .int .i64 0, .int .i64 0, .int .i64 0, .int .i64 0, .int .i64 0, .int .i64 0, .int .u64 0, .int .u64 0, .int .i64 0, .int .u64 0] 40) = v := ⟨_, rfl⟩
          rw [hv] at hS6 G6 ⊢
          rw [hg] at G6 hg0 ⊢
          have L6 := L2.bel (show Bel v2 v6 by rw [← hv]; exact (Bel.refl _).alloc _)
          clear hg hv
          refine wpAnyH_ready (rs := [4]) (by kernel_rfl) (by simp) ?_
          refine AllReadyH.cons (o := { dst := some 13, op := .call { callee := .value (.func 33), args := #[.tmp 9, .tmp 12], argTypes := #[24, 59] }, type := 41, pos := "period.go:8", after := #[{ on := 0, ground := .data }, { on := 3, ground := .data }, { on := 2, ground := .chain }], guard := none }) rfl (fun K hK => ?_) AllReadyH.nil
          go_simp
          refine (CK.out _ _ L6).mono ?_
          rintro e v7 ⟨rfl, k7⟩
          go_wp2_with fail
          have hS7 := KEEP.out _ _ hS6 k7
          refine hK.out _ _ hS7 (fun _ => ?_)
          clear hK K
          try simp only [Act.put, List.setIfInBounds_toArray, List.set_cons_zero, List.set_cons_succ]
          have G7 := G6.bel k7
          clear k7
          refine wpAnyH_take (i := 5) (oi := { dst := some 8, op := .move (.tmp 13), type := 41, pos := "period.go:8", after := #[{ on := 4, ground := .data }], guard := none }) (v := .tuple #[.agg Y.toArray, .int .i64 q]) rfl (by kernel_rfl) (by kernel_rfl) (by kernel_rfl) (fun _ _ _ h => h) (Or.inl ⟨by rfl, by intro w hSw; clear hSw; go_simp⟩) hS7 ?_
          try simp only [Act.put, List.setIfInBounds_toArray, List.set_cons_zero, List.set_cons_succ]
          refine wpAnyH_take (i := 6) (oi := { dst := some 14, op := .extract (.tmp 8) 0, type := 40, pos := "period.go:8", after := #[{ on := 5, ground := .data }], guard := none }) (v := .agg Y.toArray) rfl (by kernel_rfl) (by kernel_rfl) (by kernel_rfl) (fun _ _ _ h => h) (Or.inl ⟨by rfl, by intro w hSw; clear hSw; go_simp⟩) hS7 ?_
          try simp only [Act.put, List.setIfInBounds_toArray, List.set_cons_zero, List.set_cons_succ]
          refine wpAnyH_take (i := 7) (oi := { dst := some 15, op := .extract (.tmp 8) 1, type := 25, pos := "period.go:8", after := #[{ on := 5, ground := .data }, { on := 9, ground := .gcOnly .lateStores }], guard := none }) (v := .int .i64 q) rfl (by kernel_rfl) (by kernel_rfl) (by kernel_rfl) (fun _ _ _ h => h) (Or.inl ⟨by rfl, by intro w hSw; clear hSw; go_simp⟩) hS7 ?_
          try simp only [Act.put, List.setIfInBounds_toArray, List.set_cons_zero, List.set_cons_succ]
          refine wpAnyH_ready (rs := [9]) (by kernel_rfl) (by simp) ?_
          refine AllReadyH.cons (o := { dst := none, op := .store 40 (.tmp 6) (.tmp 14), type := 0, pos := "period.go:8", after := #[{ on := 8, ground := .data }, { on := 6, ground := .data }, { on := 4, ground := .chain }, { on := 0, ground := .phase }, { on := 1, ground := .phase }, { on := 2, ground := .phase }, { on := 3, ground := .phase }, { on := 4, ground := .phase }, { on := 5, ground := .phase }, { on := 6, ground := .phase }, { on := 7, ground := .textOnly .lateStores }, { on := 8, ground := .phase }], guard := none }) rfl (fun K hK => ?_) AllReadyH.nil
          rw [if_pos (by rfl)]
          refine wp_store_mid 40 (.tmp 6) (.tmp 14) rfl g 0 Y.toArray rfl rfl (put11 _ Y YL.out rfl G7).1 (by rw [List.size_toArray, YL.out]; exact info_chd) YO.out ?_
          refine hK.out _ _ (put_S hS7.1 hS7.2 hg0 YL.out G7) (fun hS8 => ?_)
          have E8 := put_E hS7.1 hS7.2 hg0 YL.out G7
          clear hK K
          try simp only [Act.put]
          refine wpAnyH_take (i := 10) (oi := { dst := some 7, op := .assign (.tmp 15), type := 25, pos := "period.go:8", after := #[{ on := 7, ground := .data }, { on := 9, ground := .chain }, { on := 0, ground := .phase }, { on := 1, ground := .phase }, { on := 2, ground := .phase }, { on := 3, ground := .phase }, { on := 4, ground := .phase }, { on := 5, ground := .phase }, { on := 6, ground := .phase }, { on := 7, ground := .phase }, { on := 8, ground := .phase }, { on := 9, ground := .phase }], guard := none }) (v := .int .i64 q) rfl (by kernel_rfl) (by kernel_rfl) (by kernel_rfl) (fun _ _ _ h => h) (Or.inl ⟨by rfl, by intro w hSw; clear hSw; go_simp⟩) hS8 ?_
          try simp only [Act.put, List.setIfInBounds_toArray, List.set_cons_zero, List.set_cons_succ]
          refine wpAnyH_done (by kernel_rfl) ?_ _
          go_wp2_with fail
          go_meet
          exact ⟨g, rfl, rfl, E8⟩
      · go_simp
        have hS9 := KEEP.out _ _ hS0 ((Bel.refl w6).alloc (.cells #[.int .i64 0, .int .i64 0, .int .i64 0, .int .i64 0, .int .i64 0, .int .i64 0, .int .i64 0, .int .u64 0, .int .u64 0, .int .i64 0, .int .u64 0] 40))
        refine hK.out _ _ hS9 (fun _ => ?_)
        clear hK K
        try simp only [Act.put, List.setIfInBounds_toArray, List.set_cons_zero, List.set_cons_succ]
        have G9 : Blk (w6.alloc (.cells #[.int .i64 0, .int .i64 0, .int .i64 0, .int .i64 0, .int .i64 0, .int .i64 0, .int .i64 0, .int .u64 0, .int .u64 0, .int .i64 0, .int .u64 0] 40)) w6.heap.size (recC fun _ => 0).toArray 40 := Blk.new w6 _ _
        have hg0 := Below.size hS0.2
        obtain ⟨g, hg⟩ : ∃ g, w6.heap.size = g := ⟨_, rfl⟩
        obtain ⟨v9, hv⟩ : ∃ v, w6.alloc (.cells #[.int .i64 0, .int .i64 0, .int .i64 0, .int .i64 0, .int .i64 0, .int .i64 0, .int .i64 0, .int .u64 0, .int .u64 0, .int .i64 0, .int .u64 0] 40) = v := ⟨_, rfl⟩
        rw [hv] at hS9 G9 ⊢
        rw [hg] at G9 hg0 ⊢
        clear hg hv
        refine wpAnyH_ready (rs := [3]) (by kernel_rfl) (by simp) ?_
        refine AllReadyH.cons (o := { dst := some 12, op := .buildSlice 59 1 #[(0, .tmp 11)], type := 59, pos := "period.go:8", after := #[{ on := 2, ground := .data }], guard := none }) rfl (fun K hK => ?_) AllReadyH.nil
        go_simp
        have hS10 := KEEP.out _ _ hS9 ((Bel.refl v9).alloc (.cells #[.int .i64 c0] 25))
        refine hK.out _ _ hS10 (fun _ => ?_)
        clear hK K
        try simp only [Act.put, List.setIfInBounds_toArray, List.set_cons_zero, List.set_cons_succ]
        have L10 := lit1 v9 c0
        obtain ⟨b, hb⟩ : ∃ b, v9.heap.size = b := ⟨_, rfl⟩
        obtain ⟨v10, hv⟩ : ∃ v, v9.alloc (.cells #[.int .i64 c0] 25) = v := ⟨_, rfl⟩
        rw [hv] at hS10 L10 ⊢
        rw [hb] at L10 ⊢
        have G10 := G9.bel (show Bel v9 v10 by rw [← hv]; exact (Bel.refl _).alloc _)
        clear hb hv
        refine wpAnyH_ready (rs := [4]) (by kernel_rfl) (by simp) ?_
        refine AllReadyH.cons (o := { dst := some 13, op := .call { callee := .value (.func 33), args := #[.tmp 9, .tmp 12], argTypes := #[24, 59] }, type := 41, pos := "period.go:8", after := #[{ on := 0, ground := .data }, { on := 3, ground := .data }, { on := 2, ground := .chain }], guard := none }) rfl (fun K hK => ?_) AllReadyH.nil
        go_simp
        refine (CK.out _ _ L10).mono ?_
        rintro e v11 ⟨rfl, k11⟩
        go_wp2_with fail
        have hS11 := KEEP.out _ _ hS10 k11
        refine hK.out _ _ hS11 (fun _ => ?_)
        clear hK K
        try simp only [Act.put, List.setIfInBounds_toArray, List.set_cons_zero, List.set_cons_succ]
        have G11 := G10.bel k11
        clear k11
        refine wpAnyH_take (i := 5) (oi := { dst := some 8, op := .move (.tmp 13), type := 41, pos := "period.go:8", after := #[{ on := 4, ground := .data }], guard := none }) (v := .tuple #[.agg Y.toArray, .int .i64 q]) rfl (by kernel_rfl) (by kernel_rfl) (by kernel_rfl) (fun _ _ _ h => h) (Or.inl ⟨by rfl, by intro w hSw; clear hSw; go_simp⟩) hS11 ?_
        try simp only [Act.put, List.setIfInBounds_toArray, List.set_cons_zero, List.set_cons_succ]
        refine wpAnyH_take (i := 6) (oi := { dst := some 14, op := .extract (.tmp 8) 0, type := 40, pos := "period.go:8", after := #[{ on := 5, ground := .data }], guard := none }) (v := .agg Y.toArray) rfl (by kernel_rfl) (by kernel_rfl) (by kernel_rfl) (fun _ _ _ h => h) (Or.inl ⟨by rfl, by intro w hSw; clear hSw; go_simp⟩) hS11 ?_
        try simp only [Act.put, List.setIfInBounds_toArray, List.set_cons_zero, List.set_cons_succ]
        refine wpAnyH_take (i := 7) (oi := { dst := some 15, op := .extract (.tmp 8) 1, type := 25, pos := "period.go:8", after := #[{ on := 5, ground := .data }, { on := 9, ground := .gcOnly .lateStores }], guard := none }) (v := .int .i64 q) rfl (by kernel_rfl) (by kernel_rfl) (by kernel_rfl) (fun _ _ _ h => h) (Or.inl ⟨by rfl, by intro w hSw; clear hSw; go_simp⟩) hS11 ?_
        try simp only [Act.put, List.setIfInBounds_toArray, List.set_cons_zero, List.set_cons_succ]
        refine wpAnyH_ready (rs := [9]) (by kernel_rfl) (by simp) ?_
        refine AllReadyH.cons (o := { dst := none, op := .store 40 (.tmp 6) (.tmp 14), type := 0, pos := "period.go:8", after := #[{ on := 8, ground := .data }, { on := 6, ground := .data }, { on := 4, ground := .chain }, { on := 0, ground := .phase }, { on := 1, ground := .phase }, { on := 2, ground := .phase }, { on := 3, ground := .phase }, { on := 4, ground := .phase }, { on := 5, ground := .phase }, { on := 6, ground := .phase }, { on := 7, ground := .textOnly .lateStores }, { on := 8, ground := .phase }], guard := none }) rfl (fun K hK => ?_) AllReadyH.nil
        rw [if_pos (by rfl)]
        refine wp_store_mid 40 (.tmp 6) (.tmp 14) rfl g 0 Y.toArray rfl rfl (put11 _ Y YL.out rfl G11).1 (by rw [List.size_toArray, YL.out]; exact info_chd) YO.out ?_
        refine hK.out _ _ (put_S hS11.1 hS11.2 hg0 YL.out G11) (fun hS12 => ?_)
        have E12 := put_E hS11.1 hS11.2 hg0 YL.out G11
        clear hK K
        try simp only [Act.put]
        refine wpAnyH_take (i := 10) (oi := { dst := some 7, op := .assign (.tmp 15), type := 25, pos := "period.go:8", after := #[{ on := 7, ground := .data }, { on := 9, ground := .chain }, { on := 0, ground := .phase }, { on := 1, ground := .phase }, { on := 2, ground := .phase }, { on := 3, ground := .phase }, { on := 4, ground := .phase }, { on := 5, ground := .phase }, { on := 6, ground := .phase }, { on := 7, ground := .phase }, { on := 8, ground := .phase }, { on := 9, ground := .phase }], guard := none }) (v := .int .i64 q) rfl (by kernel_rfl) (by kernel_rfl) (by kernel_rfl) (fun _ _ _ h => h) (Or.inl ⟨by rfl, by intro w hSw; clear hSw; go_simp⟩) hS12 ?_
        try simp only [Act.put, List.setIfInBounds_toArray, List.set_cons_zero, List.set_cons_succ]
        refine wpAnyH_done (by kernel_rfl) ?_ _
        go_wp2_with fail
        go_meet
        exact ⟨g, rfl, rfl, E12⟩
    · go_simp
      have hS13 := KEEP.out _ _ hS0 ((Bel.refl w6).alloc (.cells #[.int .i64 0, .int .i64 0, .int .i64 0, .int .i64 0, .int .i64 0, .int .i64 0, .int .i64 0, .int .u64 0, .int .u64 0, .int .i64 0, .int .u64 0] 40))
      refine hK.out _ _ hS13 (fun _ => ?_)
      clear hK K
      try simp only [Act.put, List.setIfInBounds_toArray, List.set_cons_zero, List.set_cons_succ]
      have G13 : Blk (w6.alloc (.cells #[.int .i64 0, .int .i64 0, .int .i64 0, .int .i64 0, .int .i64 0, .int .i64 0, .int .i64 0, .int .u64 0, .int .u64 0, .int .i64 0, .int .u64 0] 40)) w6.heap.size (recC fun _ => 0).toArray 40 := Blk.new w6 _ _
      have hg0 := Below.size hS0.2
      obtain ⟨g, hg⟩ : ∃ g, w6.heap.size = g := ⟨_, rfl⟩
      obtain ⟨v13, hv⟩ : ∃ v, w6.alloc (.cells #[.int .i64 0, .int .i64 0, .int .i64 0, .int .i64 0, .int .i64 0, .int .i64 0, .int .i64 0, .int .u64 0, .int .u64 0, .int .i64 0, .int .u64 0] 40) = v := ⟨_, rfl⟩
      rw [hv] at hS13 G13 ⊢
      rw [hg] at G13 hg0 ⊢
      clear hg hv
      refine wpAnyH_ready (rs := [2]) (by kernel_rfl) (by simp) ?_
      refine AllReadyH.cons (o := { dst := some 11, op := .call { callee := .value (.func 34), args := #[.tmp 10], argTypes := #[43] }, type := 25, pos := "period.go:8", after := #[{ on := 1, ground := .data }], guard := none }) rfl (fun K hK => ?_) AllReadyH.nil
      go_simp
      refine (HC0.out _).mono ?_
      rintro e v14 ⟨rfl, rfl⟩
      go_wp2_with fail
      refine hK.out _ _ hS13 (fun _ => ?_)
      clear hK K
      try simp only [Act.put, List.setIfInBounds_toArray, List.set_cons_zero, List.set_cons_succ]
      refine wpAnyH_ready (rs := [3]) (by kernel_rfl) (by simp) ?_
      refine AllReadyH.cons (o := { dst := some 12, op := .buildSlice 59 1 #[(0, .tmp 11)], type := 59, pos := "period.go:8", after := #[{ on := 2, ground := .data }], guard := none }) rfl (fun K hK => ?_) AllReadyH.nil
      go_simp
      have hS15 := KEEP.out _ _ hS13 ((Bel.refl v13).alloc (.cells #[.int .i64 c0] 25))
      refine hK.out _ _ hS15 (fun _ => ?_)
      clear hK K
      try simp only [Act.put, List.setIfInBounds_toArray, List.set_cons_zero, List.set_cons_succ]
      have L15 := lit1 v13 c0
      obtain ⟨b, hb⟩ : ∃ b, v13.heap.size = b := ⟨_, rfl⟩
      obtain ⟨v15, hv⟩ : ∃ v, v13.alloc (.cells #[.int .i64 c0] 25) = v := ⟨_, rfl⟩
      rw [hv] at hS15 L15 ⊢
      rw [hb] at L15 ⊢
      have G15 := G13.bel (show Bel v13 v15 by rw [← hv]; exact (Bel.refl _).alloc _)
      clear hb hv
      refine wpAnyH_ready (rs := [4]) (by kernel_rfl) (by simp) ?_
      refine AllReadyH.cons (o := { dst := some 13, op := .call { callee := .value (.func 33), args := #[.tmp 9, .tmp 12], argTypes := #[24, 59] }, type := 41, pos := "period.go:8", after := #[{ on := 0, ground := .data }, { on := 3, ground := .data }, { on := 2, ground := .chain }], guard := none }) rfl (fun K hK => ?_) AllReadyH.nil
      go_simp
      refine (CK.out _ _ L15).mono ?_
      rintro e v16 ⟨rfl, k16⟩
      go_wp2_with fail
      have hS16 := KEEP.out _ _ hS15 k16
      refine hK.out _ _ hS16 (fun _ => ?_)
      clear hK K
      try simp only [Act.put, List.setIfInBounds_toArray, List.set_cons_zero, List.set_cons_succ]
      have G16 := G15.bel k16
      clear k16
      refine wpAnyH_take (i := 5) (oi := { dst := some 8, op := .move (.tmp 13), type := 41, pos := "period.go:8", after := #[{ on := 4, ground := .data }], guard := none }) (v := .tuple #[.agg Y.toArray, .int .i64 q]) rfl (by kernel_rfl) (by kernel_rfl) (by kernel_rfl) (fun _ _ _ h => h) (Or.inl ⟨by rfl, by intro w hSw; clear hSw; go_simp⟩) hS16 ?_
      try simp only [Act.put, List.setIfInBounds_toArray, List.set_cons_zero, List.set_cons_succ]
      refine wpAnyH_take (i := 6) (oi := { dst := some 14, op := .extract (.tmp 8) 0, type := 40, pos := "period.go:8", after := #[{ on := 5, ground := .data }], guard := none }) (v := .agg Y.toArray) rfl (by kernel_rfl) (by kernel_rfl) (by kernel_rfl) (fun _ _ _ h => h) (Or.inl ⟨by rfl, by intro w hSw; clear hSw; go_simp⟩) hS16 ?_
      try simp only [Act.put, List.setIfInBounds_toArray, List.set_cons_zero, List.set_cons_succ]
      refine wpAnyH_take (i := 7) (oi := { dst := some 15, op := .extract (.tmp 8) 1, type := 25, pos := "period.go:8", after := #[{ on := 5, ground := .data }, { on := 9, ground := .gcOnly .lateStores }], guard := none }) (v := .int .i64 q) rfl (by kernel_rfl) (by kernel_rfl) (by kernel_rfl) (fun _ _ _ h => h) (Or.inl ⟨by rfl, by intro w hSw; clear hSw; go_simp⟩) hS16 ?_
      try simp only [Act.put, List.setIfInBounds_toArray, List.set_cons_zero, List.set_cons_succ]
      refine wpAnyH_ready (rs := [9]) (by kernel_rfl) (by simp) ?_
      refine AllReadyH.cons (o := { dst := none, op := .store 40 (.tmp 6) (.tmp 14), type := 0, pos := "period.go:8", after := #[{ on := 8, ground := .data }, { on := 6, ground := .data }, { on := 4, ground := .chain }, { on := 0, ground := .phase }, { on := 1, ground := .phase }, { on := 2, ground := .phase }, { on := 3, ground := .phase }, { on := 4, ground := .phase }, { on := 5, ground := .phase }, { on := 6, ground := .phase }, { on := 7, ground := .textOnly .lateStores }, { on := 8, ground := .phase }], guard := none }) rfl (fun K hK => ?_) AllReadyH.nil
      rw [if_pos (by rfl)]
      refine wp_store_mid 40 (.tmp 6) (.tmp 14) rfl g 0 Y.toArray rfl rfl (put11 _ Y YL.out rfl G16).1 (by rw [List.size_toArray, YL.out]; exact info_chd) YO.out ?_
      refine hK.out _ _ (put_S hS16.1 hS16.2 hg0 YL.out G16) (fun hS17 => ?_)
      have E17 := put_E hS16.1 hS16.2 hg0 YL.out G16
      clear hK K
      try simp only [Act.put]
      refine wpAnyH_take (i := 10) (oi := { dst := some 7, op := .assign (.tmp 15), type := 25, pos := "period.go:8", after := #[{ on := 7, ground := .data }, { on := 9, ground := .chain }, { on := 0, ground := .phase }, { on := 1, ground := .phase }, { on := 2, ground := .phase }, { on := 3, ground := .phase }, { on := 4, ground := .phase }, { on := 5, ground := .phase }, { on := 6, ground := .phase }, { on := 7, ground := .phase }, { on := 8, ground := .phase }, { on := 9, ground := .phase }], guard := none }) (v := .int .i64 q) rfl (by kernel_rfl) (by kernel_rfl) (by kernel_rfl) (fun _ _ _ h => h) (Or.inl ⟨by rfl, by intro w hSw; clear hSw; go_simp⟩) hS17 ?_
      try simp only [Act.put, List.setIfInBounds_toArray, List.set_cons_zero, List.set_cons_succ]
      refine wpAnyH_done (by kernel_rfl) ?_ _
      go_wp2_with fail
      go_meet
      exact ⟨g, rfl, rfl, E17⟩
  case rest =>
    obtain ⟨g, rfl, rfl, hS⟩ := hcut
    clear KEEP CK HC0
    have uC := Try.underlying40
    have iC := Lib.hid (show (Try.prog.info? 40).map (·.size) = some Y.length by rw [YL.out]; exact info_chd)
    by_cases h0 : q = 0
    · subst h0
      obtain ⟨hc, h1, h2⟩ := e1_zero HQ.out
      have HFt := Lib.hid (fit_of HX.out hc)
      have hY := HY.out
      rw [yz_zero] at hY
      have RG := Lib.hid (show wc.rangeAt g 0 (recC x) by rw [hY]; exact hS.out.2.1)
      have HV := Lib.hid (show epN x h = _ from if_pos HQ.out)
      clear hc hY
      have EP := Lib.hid (fun V => epoch x h V h1 h2 HFt.out.len.1 HFt.out.len.2)
      rw [show recC x = Y by rw [← HY.out, yz_zero]] at EP
      have RY := Lib.hid hS.out.2.1
      obtain ⟨n, hn⟩ : ∃ n, (h - 1) / x 2 = n := ⟨_, rfl⟩
      rw [hn] at EP
      have HN := Lib.hid hn
      clear hn
      go_wp2_with (first | (refine wpList_load_mid rfl 40 (.tmp 6) rfl g 0 rfl Y _ RY.out uC rfl iC.out ?_) | (go_at_call 35; refine (EP.out _).mono ?_; rintro e w9 ⟨rfl, k9⟩; have B9 := Lib.hid k9; clear k9))
      go_ret2
      exact ⟨by rw [HV.out, HQ.out, HN.out]; rfl, (B0.out.trans hS.out.2.2).trans B9.out⟩
    · have HV := Lib.hid (show epN x h = 0 from if_neg (by rw [HQ.out]; exact h0))
      go_wp2_with fail
      go_ret2
      exact ⟨by rw [HV.out, HQ.out]; rfl, B0.out.trans hS.out.2.2⟩
end Pd
end Go.Proofs.Ytlhahjpjlahdiaa
end

section
/-
  What period.Floor and Until answer. Conditions: the eleven numbers are of their kinds.
-/
namespace Go.Proofs.Ytlhahjpjlahdiaa
open Go.RowKit Go.Shelf
set_option linter.unusedVariables false
namespace Pd
open Kk Pm

set_option maxRecDepth 100000 in
set_option maxHeartbeats 4000000 in
theorem floorC (x : Nat → Int) (hx : Kinds x) (h : Int) (w : World) :
    Calls Try.prog 12 #[.agg (recC x).toArray, .int .i64 h] w fun e w' => e = .returned (.tuple #[.int .i64 (flN x h), .int .i64 (e1 x h)]) ∧ Bel w w' := by
  obtain ⟨D, hD⟩ : ∃ D, D = recC x := ⟨_, rfl⟩
  obtain ⟨W0, hW0⟩ : ∃ W0, w.alloc (.cells D.toArray 24) = W0 := ⟨_, rfl⟩
  have B0 := Lib.hid (show Bel w W0 by rw [← hW0]; exact (Bel.refl w).alloc _)
  have R0 := Lib.hid (show W0.rangeAt w.heap.size 0 D by rw [← hW0]; exact rngB (Blk.new w D.toArray 24))
  obtain ⟨p, hp⟩ : ∃ p, w.heap.size = p := ⟨_, rfl⟩
  have hp1 := Lib.hid (show p < W0.heap.size by rw [← hW0, ← hp, World.size_alloc]; omega)
  rw [hp] at R0
  have hDl : D.length = 11 := by rw [hD]; rfl
  obtain ⟨c0, hc0⟩ : ∃ k_, wi h = k_ := ⟨_, rfl⟩
  obtain ⟨q, hq⟩ : ∃ q, er x [c0] = q := ⟨_, rfl⟩
  obtain ⟨Y, hY⟩ : ∃ Y, recC (yz x q) = Y := ⟨_, rfl⟩
  have HC0 := Lib.hid (fun V => checkH h V)
  rw [hc0] at HC0
  have CK := Lib.hid (fun (V : World) (g : Nat) (hi : Ints .i64 V (some ⟨g, 0, none⟩) 1 [c0]) => check_ x hx (some ⟨g, 0, none⟩) 1 1 [c0] V (by omega) hi)
  rw [hq, hY, ← hD] at CK
  rw [← hD]
  have iD : (Try.prog.info? 24).map (·.size) = some D.length := by rw [hDl]; exact info_rec
  have uD := Try.underlying24
  have YL := Lib.hid (show Y.length = 11 by rw [← hY]; rfl)
  have YO := Lib.hid (all_oneCell_toArray (cs := Y) (by rw [← hY]; exact recC_cells _))
  have HDl := Lib.hid hDl
  have HX := Lib.hid hx
  have HP := Lib.hid hp
  have HW0 := Lib.hid hW0
  have HQ := Lib.hid (show e1 x h = q by rw [← hq, ← hc0]; rfl)
  have HY := Lib.hid hY
  have HD := Lib.hid hD
  clear hx hp hD hW0 hq hY hDl hc0
  go_enter Try.func12, Try.ntmps12
  go_upto_region 1 with fail
  rw [HW0.out, HP.out]
  have KEEP := Lib.hid (show ∀ V V' : World, (V.rangeAt p 0 D ∧ Bel W0 V) → Bel V V' → (V'.rangeAt p 0 D ∧ Bel W0 V') from fun V V' h hb => ⟨rng_bel h.1 hb, h.2.trans hb⟩)
  go_cut [6, 7] (fun s6 s7 wx => ∃ g : Nat, s6 = .pointer (some ⟨g, 0, none⟩) ∧ s7 = .int .i64 q ∧ Hid (wx.rangeAt p 0 D ∧ wx.rangeAt g 0 Y ∧ Bel W0 wx))
  case first =>
    refine wp_region_held_drew (S := fun V => V.rangeAt p 0 D ∧ Bel W0 V) (by kernel_rfl) ⟨rng_bel R0.out (Bel.refl W0).drew, (Bel.refl W0).drew⟩ (fun hS0 => ?_)
    obtain ⟨w6, hw6⟩ : ∃ w6, W0.drew = w6 := ⟨_, rfl⟩
    rw [hw6] at hS0 ⊢
    clear hw6
    have hp1 := hp1.out
    refine wpAnyH_take (i := 0) (oi := { dst := some 9, op := .load 24 (.tmp 2), type := 24, pos := "period.go:38", after := #[], guard := none }) (v := .agg D.toArray) rfl (by kernel_rfl) (by kernel_rfl) (by kernel_rfl) (fun _ _ _ h => h) (yieldsIf_load_mid (by rfl) _ _ rfl _ _ rfl _ _ (fun w h => h.1) uD rfl iD) hS0 ?_
    try simp only [Act.put, List.setIfInBounds_toArray, List.set_cons_zero, List.set_cons_succ]
    refine wpAnyH_take (i := 1) (oi := { dst := some 10, op := .move (.tmp 1), type := 3, pos := "period.go:38", after := #[], guard := none }) (v := .int .i64 h) rfl (by kernel_rfl) (by kernel_rfl) (by kernel_rfl) (fun _ _ _ h => h) (Or.inl ⟨by rfl, by intro w hSw; clear hSw; go_simp⟩) hS0 ?_
    try simp only [Act.put, List.setIfInBounds_toArray, List.set_cons_zero, List.set_cons_succ]
    refine wpAnyH_ready (rs := [2, 8]) (by kernel_rfl) (by simp) ?_
    refine AllReadyH.cons (o := { dst := some 11, op := .call { callee := .value (.func 34), args := #[.tmp 10], argTypes := #[43] }, type := 25, pos := "period.go:38", after := #[{ on := 1, ground := .data }], guard := none }) rfl (fun K hK => ?_) (AllReadyH.cons (o := { dst := some 6, op := .alloc 40, type := 0, pos := "period.go:38", after := #[], guard := none }) rfl (fun K hK => ?_) AllReadyH.nil)
    · go_simp
      refine (HC0.out _).mono ?_
      rintro e v1 ⟨rfl, rfl⟩
      go_wp2_with fail
      refine hK.out _ _ hS0 (fun _ => ?_)
      clear hK K
      try simp only [Act.put, List.setIfInBounds_toArray, List.set_cons_zero, List.set_cons_succ]
      refine wpAnyH_ready (rs := [3, 8]) (by kernel_rfl) (by simp) ?_
      refine AllReadyH.cons (o := { dst := some 12, op := .buildSlice 59 1 #[(0, .tmp 11)], type := 59, pos := "period.go:38", after := #[{ on := 2, ground := .data }], guard := none }) rfl (fun K hK => ?_) (AllReadyH.cons (o := { dst := some 6, op := .alloc 40, type := 0, pos := "period.go:38", after := #[], guard := none }) rfl (fun K hK => ?_) AllReadyH.nil)
      · go_simp
        have hS2 := KEEP.out _ _ hS0 ((Bel.refl w6).alloc (.cells #[.int .i64 c0] 25))
        refine hK.out _ _ hS2 (fun _ => ?_)
        clear hK K
        try simp only [Act.put, List.setIfInBounds_toArray, List.set_cons_zero, List.set_cons_succ]
        have L2 := lit1 w6 c0
        obtain ⟨b, hb⟩ : ∃ b, w6.heap.size = b := ⟨_, rfl⟩
        obtain ⟨v2, hv⟩ : ∃ v, w6.alloc (.cells #[.int .i64 c0] 25) = v := ⟨_, rfl⟩
        rw [hv] at hS2 L2 ⊢
        rw [hb] at L2 ⊢
        clear hb hv
        refine wpAnyH_ready (rs := [4, 8]) (by kernel_rfl) (by simp) ?_
        refine AllReadyH.cons (o := { dst := some 13, op := .call { callee := .value (.func 33), args := #[.tmp 9, .tmp 12], argTypes := #[24, 59] }, type := 41, pos := "period.go:38", after := #[{ on := 0, ground := .data }, { on := 3, ground := .data }, { on := 2, ground := .chain }], guard := none }) rfl (fun K hK => ?_) (AllReadyH.cons (o := { dst := some 6, op := .alloc 40, type := 0, pos := "period.go:38", after := #[], guard := none }) rfl (fun K hK => ?_) AllReadyH.nil)
        · go_simp
          refine (CK.out _ _ L2).mono ?_
          rintro e v3 ⟨rfl, k3⟩
          go_wp2_with fail
          have hS3 := KEEP.out _ _ hS2 k3
          refine hK.out _ _ hS3 (fun _ => ?_)
          clear hK K
          try simp only [Act.put, List.setIfInBounds_toArray, List.set_cons_zero, List.set_cons_succ]
          clear k3
          refine wpAnyH_take (i := 5) (oi := { dst := some 8, op := .move (.tmp 13), type := 41, pos := "period.go:38", after := #[{ on := 4, ground := .data }], guard := none }) (v := .tuple #[.agg Y.toArray, .int .i64 q]) rfl (by kernel_rfl) (by kernel_rfl) (by kernel_rfl) (fun _ _ _ h => h) (Or.inl ⟨by rfl, by intro w hSw; clear hSw; go_simp⟩) hS3 ?_
          try simp only [Act.put, List.setIfInBounds_toArray, List.set_cons_zero, List.set_cons_succ]
          refine wpAnyH_take (i := 6) (oi := { dst := some 14, op := .extract (.tmp 8) 0, type := 40, pos := "period.go:38", after := #[{ on := 5, ground := .data }], guard := none }) (v := .agg Y.toArray) rfl (by kernel_rfl) (by kernel_rfl) (by kernel_rfl) (fun _ _ _ h => h) (Or.inl ⟨by rfl, by intro w hSw; clear hSw; go_simp⟩) hS3 ?_
          try simp only [Act.put, List.setIfInBounds_toArray, List.set_cons_zero, List.set_cons_succ]
          refine wpAnyH_take (i := 7) (oi := { dst := some 15, op := .extract (.tmp 8) 1, type := 25, pos := "period.go:38", after := #[{ on := 5, ground := .data }, { on := 9, ground := .gcOnly .lateStores }], guard := none }) (v := .int .i64 q) rfl (by kernel_rfl) (by kernel_rfl) (by kernel_rfl) (fun _ _ _ h => h) (Or.inl ⟨by rfl, by intro w hSw; clear hSw; go_simp⟩) hS3 ?_
          try simp only [Act.put, List.setIfInBounds_toArray, List.set_cons_zero, List.set_cons_succ]
          refine wpAnyH_ready (rs := [8]) (by kernel_rfl) (by simp) ?_
          refine AllReadyH.cons (o := { dst := some 6, op := .alloc 40, type := 0, pos := "period.go:38", after := #[], guard := none }) rfl (fun K hK => ?_) AllReadyH.nil
          go_simp
          have hS4 := KEEP.out _ _ hS3 ((Bel.refl v3).alloc (.cells #[.int .i64 0, .int .i64 0, .int .i64 0, .int .i64 0, .int .i64 0, .int .i64 0, .int .i64 0, .int .u64 0, .int .u64 0, .int .i64 0, .int .u64 0] 40))
          refine hK.out _ _ hS4 (fun _ => ?_)
          clear hK K
          try simp only [Act.put, List.setIfInBounds_toArray, List.set_cons_zero, List.set_cons_succ]
          have G4 : Blk (v3.alloc (.cells #[.int .i64 0, .int .i64 0, .int .i64 0, .int .i64 0, .int .i64 0, .int .i64 0, .int .i64 0, .int .u64 0, .int .u64 0, .int .i64 0, .int .u64 0] 40)) v3.heap.size (recC fun _ => 0).toArray 40 := Blk.new v3 _ _
          have hg0 := Below.size hS3.2
          obtain ⟨g, hg⟩ : ∃ g, v3.heap.size = g := ⟨_, rfl⟩
          obtain ⟨v4, hv⟩ : ∃ v, v3.alloc (.cells #[.int .i64 0, .int .i64 0, .int .i64 0, .int .i64 0, .int .i64 0, .int .i64 0, .int .i64 0, .int .u64 0, .int .u64 0, .int .i64 0, .int .u64 0] 40) = v := ⟨_, rfl⟩
          rw [hv] at hS4 G4 ⊢
          rw [hg] at G4 hg0 ⊢
          clear hg hv
          refine wpAnyH_ready (rs := [9]) (by kernel_rfl) (by simp) ?_
          refine AllReadyH.cons (o := { dst := none, op := .store 40 (.tmp 6) (.tmp 14), type := 0, pos := "period.go:38", after := #[{ on := 8, ground := .data }, { on := 6, ground := .data }, { on := 4, ground := .chain }, { on := 0, ground := .phase }, { on := 1, ground := .phase }, { on := 2, ground := .phase }, { on := 3, ground := .phase }, { on := 4, ground := .phase }, { on := 5, ground := .phase }, { on := 6, ground := .phase }, { on := 7, ground := .textOnly .lateStores }, { on := 8, ground := .phase }], guard := none }) rfl (fun K hK => ?_) AllReadyH.nil
          rw [if_pos (by rfl)]
          refine wp_store_mid 40 (.tmp 6) (.tmp 14) rfl g 0 Y.toArray rfl rfl (put11 _ Y YL.out rfl G4).1 (by rw [List.size_toArray, YL.out]; exact info_chd) YO.out ?_
          refine hK.out _ _ (put_S hS4.1 hS4.2 hg0 YL.out G4) (fun hS5 => ?_)
          have E5 := put_E hS4.1 hS4.2 hg0 YL.out G4
          clear hK K
          try simp only [Act.put]
          refine wpAnyH_take (i := 10) (oi := { dst := some 7, op := .assign (.tmp 15), type := 25, pos := "period.go:38", after := #[{ on := 7, ground := .data }, { on := 9, ground := .chain }, { on := 0, ground := .phase }, { on := 1, ground := .phase }, { on := 2, ground := .phase }, { on := 3, ground := .phase }, { on := 4, ground := .phase }, { on := 5, ground := .phase }, { on := 6, ground := .phase }, { on := 7, ground := .phase }, { on := 8, ground := .phase }, { on := 9, ground := .phase }], guard := none }) (v := .int .i64 q) rfl (by kernel_rfl) (by kernel_rfl) (by kernel_rfl) (fun _ _ _ h => h) (Or.inl ⟨by rfl, by intro w hSw; clear hSw; go_simp⟩) hS5 ?_
          try simp only [Act.put, List.setIfInBounds_toArray, List.set_cons_zero, List.set_cons_succ]
          refine wpAnyH_done (by kernel_rfl) ?_ _
          go_wp2_with fail
          go_meet
          exact ⟨g, rfl, rfl, E5⟩
        · go_simp
          have hS6 := KEEP.out _ _ hS2 ((Bel.refl v2).alloc (.cells #[.int .i64 0, .int .i64 0, .int .i64 0, .int .i64 0, .int .i64 0, .int .i64 0, .int .i64 0, .int .u64 0, .int .u64 0, .int .i64 0, .int .u64 0] 40))
          refine hK.out _ _ hS6 (fun _ => ?_)
          clear hK K
          try simp only [Act.put, List.setIfInBounds_toArray, List.set_cons_zero, List.set_cons_succ]
          have G6 : Blk (v2.alloc (.cells #[.int .i64 0, .int .i64 0, .int .i64 0, .int .i64 0, .int .i64 0, .int .i64 0, .int .i64 0, .int .u64 0, .int .u64 0, .int .i64 0, .int .u64 0] 40)) v2.heap.size (recC fun _ => 0).toArray 40 := Blk.new v2 _ _
          have hg0 := Below.size hS2.2
          obtain ⟨g, hg⟩ : ∃ g, v2.heap.size = g := ⟨_, rfl⟩
          obtain ⟨v6, hv⟩ : ∃ v, v2.alloc (.cells #[.int .i64 0, .int .i64 0, .int .i64 0, .int .i64 0, .int .i64 0, .int .i64 0, .int .i64 0, .int .u64 0, .int .u64 0, .int .i64 0, .int .u64 0] 40) = v := ⟨_, rfl⟩
          rw [hv] at hS6 G6 ⊢
          rw [hg] at G6 hg0 ⊢
          have L6 := L2.bel (show Bel v2 v6 by rw [← hv]; exact (Bel.refl _).alloc _)
          clear hg hv
          refine wpAnyH_ready (rs := [4]) (by kernel_rfl) (by simp) ?_
          refine AllReadyH.cons (o := { dst := some 13, op := .call { callee := .value (.func 33), args := #[.tmp 9, .tmp 12], argTypes := #[24, 59] }, type := 41, pos := "period.go:38", after := #[{ on := 0, ground := .data }, { on := 3, ground := .data }, { on := 2, ground := .chain }], guard := none }) rfl (fun K hK => ?_) AllReadyH.nil
          go_simp
          refine (CK.out _ _ L6).mono ?_
          rintro e v7 ⟨rfl, k7⟩
          go_wp2_with fail
          have hS7 := KEEP.out _ _ hS6 k7
          refine hK.out _ _ hS7 (fun _ => ?_)
          clear hK K
          try simp only [Act.put, List.setIfInBounds_toArray, List.set_cons_zero, List.set_cons_succ]
          have G7 := G6.bel k7
          clear k7
          refine wpAnyH_take (i := 5) (oi := { dst := some 8, op := .move (.tmp 13), type := 41, pos := "period.go:38", after := #[{ on := 4, ground := .data }], guard := none }) (v := .tuple #[.agg Y.toArray, .int .i64 q]) rfl (by kernel_rfl) (by kernel_rfl) (by kernel_rfl) (fun _ _ _ h => h) (Or.inl ⟨by rfl, by intro w hSw; clear hSw; go_simp⟩) hS7 ?_
          try simp only [Act.put, List.setIfInBounds_toArray, List.set_cons_zero, List.set_cons_succ]
          refine wpAnyH_take (i := 6) (oi := { dst := some 14, op := .extract (.tmp 8) 0, type := 40, pos := "period.go:38", after := #[{ on := 5, ground := .data }], guard := none }) (v := .agg Y.toArray) rfl (by kernel_rfl) (by kernel_rfl) (by kernel_rfl) (fun _ _ _ h => h) (Or.inl ⟨by rfl, by intro w hSw; clear hSw; go_simp⟩) hS7 ?_
          try simp only [Act.put, List.setIfInBounds_toArray, List.set_cons_zero, List.set_cons_succ]
          refine wpAnyH_take (i := 7) (oi := { dst := some 15, op := .extract (.tmp 8) 1, type := 25, pos := "period.go:38", after := #[{ on := 5, ground := .data }, { on := 9, ground := .gcOnly .lateStores }], guard := none }) (v := .int .i64 q) rfl (by kernel_rfl) (by kernel_rfl) (by kernel_rfl) (fun _ _ _ h => h) (Or.inl ⟨by rfl, by intro w hSw; clear hSw; go_simp⟩) hS7 ?_
          try simp only [Act.put, List.setIfInBounds_toArray, List.set_cons_zero, List.set_cons_succ]
          refine wpAnyH_ready (rs := [9]) (by kernel_rfl) (by simp) ?_
          refine AllReadyH.cons (o := { dst := none, op := .store 40 (.tmp 6) (.tmp 14), type := 0, pos := "period.go:38", after := #[{ on := 8, ground := .data }, { on := 6, ground := .data }, { on := 4, ground := .chain }, { on := 0, ground := .phase }, { on := 1, ground := .phase }, { on := 2, ground := .phase }, { on := 3, ground := .phase }, { on := 4, ground := .phase }, { on := 5, ground := .phase }, { on := 6, ground := .phase }, { on := 7, ground := .textOnly .lateStores }, { on := 8, ground := .phase }], guard := none }) rfl (fun K hK => ?_) AllReadyH.nil
          rw [if_pos (by rfl)]
          refine wp_store_mid 40 (.tmp 6) (.tmp 14) rfl g 0 Y.toArray rfl rfl (put11 _ Y YL.out rfl G7).1 (by rw [List.size_toArray, YL.out]; exact info_chd) YO.out ?_
          refine hK.out _ _ (put_S hS7.1 hS7.2 hg0 YL.out G7) (fun hS8 => ?_)
          have E8 := put_E hS7.1 hS7.2 hg0 YL.out G7
          clear hK K
          try simp only [Act.put]
          refine wpAnyH_take (i := 10) (oi := { dst := some 7, op := .assign (.tmp 15), type := 25, pos := "period.go:38", after := #[{ on := 7, ground := .data }, { on := 9, ground := .chain }, { on := 0, ground := .phase }, { on := 1, ground := .phase }, { on := 2, ground := .phase }, { on := 3, ground := .phase }, { on := 4, ground := .phase }, { on := 5, ground := .phase }, { on := 6, ground := .phase }, { on := 7, ground := .phase }, { on := 8, ground := .phase }, { on := 9, ground := .phase }], guard := none }) (v := .int .i64 q) rfl (by kernel_rfl) (by kernel_rfl) (by kernel_rfl) (fun _ _ _ h => h) (Or.inl ⟨by rfl, by intro w hSw; clear hSw; go_simp⟩) hS8 ?_
          try simp only [Act.put, List.setIfInBounds_toArray, List.set_cons_zero, List.set_cons_succ]
          refine wpAnyH_done (by kernel_rfl) ?_ _
          go_wp2_with fail
          go_meet
          exact ⟨g, rfl, rfl, E8⟩
      · go_simp
        have hS9 := KEEP.out _ _ hS0 ((Bel.refl w6).alloc (.cells #[.int .i64 0, .int .i64 0, .int .i64 0, .int .i64 0, .int .i64 0, .int .i64 0, .int .i64 0, .int .u64 0, .int .u64 0, .int .i64 0, .int .u64 0] 40))
        refine hK.out _ _ hS9 (fun _ => ?_)
        clear hK K
        try simp only [Act.put, List.setIfInBounds_toArray, List.set_cons_zero, List.set_cons_succ]
        have G9 : Blk (w6.alloc (.cells #[.int .i64 0, .int .i64 0, .int .i64 0, .int .i64 0, .int .i64 0, .int .i64 0, .int .i64 0, .int .u64 0, .int .u64 0, .int .i64 0, .int .u64 0] 40)) w6.heap.size (recC fun _ => 0).toArray 40 := Blk.new w6 _ _
        have hg0 := Below.size hS0.2
        obtain ⟨g, hg⟩ : ∃ g, w6.heap.size = g := ⟨_, rfl⟩
        obtain ⟨v9, hv⟩ : ∃ v, w6.alloc (.cells #[.int .i64 0, .int .i64 0, .int .i64 0, .int .i64 0, .int .i64 0, .int .i64 0, .int .i64 0, .int .u64 0, .int .u64 0, .int .i64 0, .int .u64 0] 40) = v := ⟨_, rfl⟩
        rw [hv] at hS9 G9 ⊢
        rw [hg] at G9 hg0 ⊢
        clear hg hv
        refine wpAnyH_ready (rs := [3]) (by kernel_rfl) (by simp) ?_
        refine AllReadyH.cons (o := { dst := some 12, op := .buildSlice 59 1 #[(0, .tmp 11)], type := 59, pos := "period.go:38", after := #[{ on := 2, ground := .data }], guard := none }) rfl (fun K hK => ?_) AllReadyH.nil
        go_simp
        have hS10 := KEEP.out _ _ hS9 ((Bel.refl v9).alloc (.cells #[.int .i64 c0] 25))
        refine hK.out _ _ hS10 (fun _ => ?_)
        clear hK K
        try simp only [Act.put, List.setIfInBounds_toArray, List.set_cons_zero, List.set_cons_succ]
        have L10 := lit1 v9 c0
        obtain ⟨b, hb⟩ : ∃ b, v9.heap.size = b := ⟨_, rfl⟩
        obtain ⟨v10, hv⟩ : ∃ v, v9.alloc (.cells #[.int .i64 c0] 25) = v := ⟨_, rfl⟩
        rw [hv] at hS10 L10 ⊢
        rw [hb] at L10 ⊢
        have G10 := G9.bel (show Bel v9 v10 by rw [← hv]; exact (Bel.refl _).alloc _)
        clear hb hv
        refine wpAnyH_ready (rs := [4]) (by kernel_rfl) (by simp) ?_
        refine AllReadyH.cons (o := { dst := some 13, op := .call { callee := .value (.func 33), args := #[.tmp 9, .tmp 12], argTypes := #[24, 59] }, type := 41, pos := "period.go:38", after := #[{ on := 0, ground := .data }, { on := 3, ground := .data }, { on := 2, ground := .chain }], guard := none }) rfl (fun K hK => ?_) AllReadyH.nil
        go_simp
        refine (CK.out _ _ L10).mono ?_
        rintro e v11 ⟨rfl, k11⟩
        go_wp2_with fail
        have hS11 := KEEP.out _ _ hS10 k11
        refine hK.out _ _ hS11 (fun _ => ?_)
        clear hK K
        try simp only [Act.put, List.setIfInBounds_toArray, List.set_cons_zero, List.set_cons_succ]
        have G11 := G10.bel k11
        clear k11
        refine wpAnyH_take (i := 5) (oi := { dst := some 8, op := .move (.tmp 13), type := 41, pos := "period.go:38", after := #[{ on := 4, ground := .data }], guard := none }) (v := .tuple #[.agg Y.toArray, .int .i64 q]) rfl (by kernel_rfl) (by kernel_rfl) (by kernel_rfl) (fun _ _ _ h => h) (Or.inl ⟨by rfl, by intro w hSw; clear hSw; go_simp⟩) hS11 ?_
        try simp only [Act.put, List.setIfInBounds_toArray, List.set_cons_zero, List.set_cons_succ]
        refine wpAnyH_take (i := 6) (oi := { dst := some 14, op := .extract (.tmp 8) 0, type := 40, pos := "period.go:38", after := #[{ on := 5, ground := .data }], guard := none }) (v := .agg Y.toArray) rfl (by kernel_rfl) (by kernel_rfl) (by kernel_rfl) (fun _ _ _ h => h) (Or.inl ⟨by rfl, by intro w hSw; clear hSw; go_simp⟩) hS11 ?_
        try simp only [Act.put, List.setIfInBounds_toArray, List.set_cons_zero, List.set_cons_succ]
        refine wpAnyH_take (i := 7) (oi := { dst := some 15, op := .extract (.tmp 8) 1, type := 25, pos := "period.go:38", after := #[{ on := 5, ground := .data }, { on := 9, ground := .gcOnly .lateStores }], guard := none }) (v := .int .i64 q) rfl (by kernel_rfl) (by kernel_rfl) (by kernel_rfl) (fun _ _ _ h => h) (Or.inl ⟨by rfl, by intro w hSw; clear hSw; go_simp⟩) hS11 ?_
        try simp only [Act.put, List.setIfInBounds_toArray, List.set_cons_zero, List.set_cons_succ]
        refine wpAnyH_ready (rs := [9]) (by kernel_rfl) (by simp) ?_
        refine AllReadyH.cons (o := { dst := none, op := .store 40 (.tmp 6) (.tmp 14), type := 0, pos := "period.go:38", after := #[{ on := 8, ground := .data }, { on := 6, ground := .data }, { on := 4, ground := .chain }, { on := 0, ground := .phase }, { on := 1, ground := .phase }, { on := 2, ground := .phase }, { on := 3, ground := .phase }, { on := 4, ground := .phase }, { on := 5, ground := .phase }, { on := 6, ground := .phase }, { on := 7, ground := .textOnly .lateStores }, { on := 8, ground := .phase }], guard := none }) rfl (fun K hK => ?_) AllReadyH.nil
        rw [if_pos (by rfl)]
        refine wp_store_mid 40 (.tmp 6) (.tmp 14) rfl g 0 Y.toArray rfl rfl (put11 _ Y YL.out rfl G11).1 (by rw [List.size_toArray, YL.out]; exact info_chd) YO.out ?_
        refine hK.out _ _ (put_S hS11.1 hS11.2 hg0 YL.out G11) (fun hS12 => ?_)
        have E12 := put_E hS11.1 hS11.2 hg0 YL.out G11
        clear hK K
        try simp only [Act.put]
        refine wpAnyH_take (i := 10) (oi := { dst := some 7, op := .assign (.tmp 15), type := 25, pos := "period.go:38", after := #[{ on := 7, ground := .data }, { on := 9, ground := .chain }, { on := 0, ground := .phase }, { on := 1, ground := .phase }, { on := 2, ground := .phase }, { on := 3, ground := .phase }, { on := 4, ground := .phase }, { on := 5, ground := .phase }, { on := 6, ground := .phase }, { on := 7, ground := .phase }, { on := 8, ground := .phase }, { on := 9, ground := .phase }], guard := none }) (v := .int .i64 q) rfl (by kernel_rfl) (by kernel_rfl) (by kernel_rfl) (fun _ _ _ h => h) (Or.inl ⟨by rfl, by intro w hSw; clear hSw; go_simp⟩) hS12 ?_
        try simp only [Act.put, List.setIfInBounds_toArray, List.set_cons_zero, List.set_cons_succ]
        refine wpAnyH_done (by kernel_rfl) ?_ _
        go_wp2_with fail
        go_meet
        exact ⟨g, rfl, rfl, E12⟩
    · go_simp
      have hS13 := KEEP.out _ _ hS0 ((Bel.refl w6).alloc (.cells #[.int .i64 0, .int .i64 0, .int .i64 0, .int .i64 0, .int .i64 0, .int .i64 0, .int .i64 0, .int .u64 0, .int .u64 0, .int .i64 0, .int .u64 0] 40))
      refine hK.out _ _ hS13 (fun _ => ?_)
      clear hK K
      try simp only [Act.put, List.setIfInBounds_toArray, List.set_cons_zero, List.set_cons_succ]
      have G13 : Blk (w6.alloc (.cells #[.int .i64 0, .int .i64 0, .int .i64 0, .int .i64 0, .int .i64 0, .int .i64 0, .int .i64 0, .int .u64 0, .int .u64 0, .int .i64 0, .int .u64 0] 40)) w6.heap.size (recC fun _ => 0).toArray 40 := Blk.new w6 _ _
      have hg0 := Below.size hS0.2
      obtain ⟨g, hg⟩ : ∃ g, w6.heap.size = g := ⟨_, rfl⟩
      obtain ⟨v13, hv⟩ : ∃ v, w6.alloc (.cells #[.int .i64 0, .int .i64 0, .int .i64 0, .int .i64 0, .int .i64 0, .int .i64 0, .int .i64 0, .int .u64 0, .int .u64 0, .int .i64 0, .int .u64 0] 40) = v := ⟨_, rfl⟩
      rw [hv] at hS13 G13 ⊢
      rw [hg] at G13 hg0 ⊢
      clear hg hv
      refine wpAnyH_ready (rs := [2]) (by kernel_rfl) (by simp) ?_
      refine AllReadyH.cons (o := { dst := some 11, op := .call { callee := .value (.func 34), args := #[.tmp 10], argTypes := #[43] }, type := 25, pos := "period.go:38", after := #[{ on := 1, ground := .data }], guard := none }) rfl (fun K hK => ?_) AllReadyH.nil
      go_simp
      refine (HC0.out _).mono ?_
      rintro e v14 ⟨rfl, rfl⟩
      go_wp2_with fail
      refine hK.out _ _ hS13 (fun _ => ?_)
      clear hK K
      try simp only [Act.put, List.setIfInBounds_toArray, List.set_cons_zero, List.set_cons_succ]
      refine wpAnyH_ready (rs := [3]) (by kernel_rfl) (by simp) ?_
      refine AllReadyH.cons (o := { dst := some 12, op := .buildSlice 59 1 #[(0, .tmp 11)], type := 59, pos := "period.go:38", after := #[{ on := 2, ground := .data }], guard := none }) rfl (fun K hK => ?_) AllReadyH.nil
      go_simp
      have hS15 := KEEP.out _ _ hS13 ((Bel.refl v13).alloc (.cells #[.int .i64 c0] 25))
      refine hK.out _ _ hS15 (fun _ => ?_)
      clear hK K
      try simp only [Act.put, List.setIfInBounds_toArray, List.set_cons_zero, List.set_cons_succ]
      have L15 := lit1 v13 c0
      obtain ⟨b, hb⟩ : ∃ b, v13.heap.size = b := ⟨_, rfl⟩
      obtain ⟨v15, hv⟩ : ∃ v, v13.alloc (.cells #[.int .i64 c0] 25) = v := ⟨_, rfl⟩
      rw [hv] at hS15 L15 ⊢
      rw [hb] at L15 ⊢
      have G15 := G13.bel (show Bel v13 v15 by rw [← hv]; exact (Bel.refl _).alloc _)
      clear hb hv
      refine wpAnyH_ready (rs := [4]) (by kernel_rfl) (by simp) ?_
      refine AllReadyH.cons (o := { dst := some 13, op := .call { callee := .value (.func 33), args := #[.tmp 9, .tmp 12], argTypes := #[24, 59] }, type := 41, pos := "period.go:38", after := #[{ on := 0, ground := .data }, { on := 3, ground := .data }, { on := 2, ground := .chain }], guard := none }) rfl (fun K hK => ?_) AllReadyH.nil
      go_simp
      refine (CK.out _ _ L15).mono ?_
      rintro e v16 ⟨rfl, k16⟩
      go_wp2_with fail
      have hS16 := KEEP.out _ _ hS15 k16
      refine hK.out _ _ hS16 (fun _ => ?_)
      clear hK K
      try simp only [Act.put, List.setIfInBounds_toArray, List.set_cons_zero, List.set_cons_succ]
      have G16 := G15.bel k16
      clear k16
      refine wpAnyH_take (i := 5) (oi := { dst := some 8, op := .move (.tmp 13), type := 41, pos := "period.go:38", after := #[{ on := 4, ground := .data }], guard := none }) (v := .tuple #[.agg Y.toArray, .int .i64 q]) rfl (by kernel_rfl) (by kernel_rfl) (by kernel_rfl) (fun _ _ _ h => h) (Or.inl ⟨by rfl, by intro w hSw; clear hSw; go_simp⟩) hS16 ?_
      try simp only [Act.put, List.setIfInBounds_toArray, List.set_cons_zero, List.set_cons_succ]
      refine wpAnyH_take (i := 6) (oi := { dst := some 14, op := .extract (.tmp 8) 0, type := 40, pos := "period.go:38", after := #[{ on := 5, ground := .data }], guard := none }) (v := .agg Y.toArray) rfl (by kernel_rfl) (by kernel_rfl) (by kernel_rfl) (fun _ _ _ h => h) (Or.inl ⟨by rfl, by intro w hSw; clear hSw; go_simp⟩) hS16 ?_
      try simp only [Act.put, List.setIfInBounds_toArray, List.set_cons_zero, List.set_cons_succ]
      refine wpAnyH_take (i := 7) (oi := { dst := some 15, op := .extract (.tmp 8) 1, type := 25, pos := "period.go:38", after := #[{ on := 5, ground := .data }, { on := 9, ground := .gcOnly .lateStores }], guard := none }) (v := .int .i64 q) rfl (by kernel_rfl) (by kernel_rfl) (by kernel_rfl) (fun _ _ _ h => h) (Or.inl ⟨by rfl, by intro w hSw; clear hSw; go_simp⟩) hS16 ?_
      try simp only [Act.put, List.setIfInBounds_toArray, List.set_cons_zero, List.set_cons_succ]
      refine wpAnyH_ready (rs := [9]) (by kernel_rfl) (by simp) ?_
      refine AllReadyH.cons (o := { dst := none, op := .store 40 (.tmp 6) (.tmp 14), type := 0, pos := "period.go:38", after := #[{ on := 8, ground := .data }, { on := 6, ground := .data }, { on := 4, ground := .chain }, { on := 0, ground := .phase }, { on := 1, ground := .phase }, { on := 2, ground := .phase }, { on := 3, ground := .phase }, { on := 4, ground := .phase }, { on := 5, ground := .phase }, { on := 6, ground := .phase }, { on := 7, ground := .textOnly .lateStores }, { on := 8, ground := .phase }], guard := none }) rfl (fun K hK => ?_) AllReadyH.nil
      rw [if_pos (by rfl)]
      refine wp_store_mid 40 (.tmp 6) (.tmp 14) rfl g 0 Y.toArray rfl rfl (put11 _ Y YL.out rfl G16).1 (by rw [List.size_toArray, YL.out]; exact info_chd) YO.out ?_
      refine hK.out _ _ (put_S hS16.1 hS16.2 hg0 YL.out G16) (fun hS17 => ?_)
      have E17 := put_E hS16.1 hS16.2 hg0 YL.out G16
      clear hK K
      try simp only [Act.put]
      refine wpAnyH_take (i := 10) (oi := { dst := some 7, op := .assign (.tmp 15), type := 25, pos := "period.go:38", after := #[{ on := 7, ground := .data }, { on := 9, ground := .chain }, { on := 0, ground := .phase }, { on := 1, ground := .phase }, { on := 2, ground := .phase }, { on := 3, ground := .phase }, { on := 4, ground := .phase }, { on := 5, ground := .phase }, { on := 6, ground := .phase }, { on := 7, ground := .phase }, { on := 8, ground := .phase }, { on := 9, ground := .phase }], guard := none }) (v := .int .i64 q) rfl (by kernel_rfl) (by kernel_rfl) (by kernel_rfl) (fun _ _ _ h => h) (Or.inl ⟨by rfl, by intro w hSw; clear hSw; go_simp⟩) hS17 ?_
      try simp only [Act.put, List.setIfInBounds_toArray, List.set_cons_zero, List.set_cons_succ]
      refine wpAnyH_done (by kernel_rfl) ?_ _
      go_wp2_with fail
      go_meet
      exact ⟨g, rfl, rfl, E17⟩
  case rest =>
    obtain ⟨g, rfl, rfl, hS⟩ := hcut
    clear KEEP CK HC0
    have uC := Try.underlying40
    have iC := Lib.hid (show (Try.prog.info? 40).map (·.size) = some Y.length by rw [YL.out]; exact info_chd)
    by_cases h0 : q = 0
    · subst h0
      obtain ⟨hc, h1, h2⟩ := e1_zero HQ.out
      have HFt := Lib.hid (fit_of HX.out hc)
      have hY := HY.out
      rw [yz_zero] at hY
      have RG := Lib.hid (show wc.rangeAt g 0 (recC x) by rw [hY]; exact hS.out.2.1)
      have HV := Lib.hid (show flN x h = _ from if_pos HQ.out)
      clear hc hY
      have c2 := rec_cell RG.out 2 (by omega)
      rw [show kd 2 = .i64 from rfl] at c2
      have c3 := rec_cell RG.out 3 (by omega)
      rw [show kd 3 = .i64 from rfl] at c3
      obtain ⟨l, hl⟩ : ∃ l, x 2 = l := ⟨_, rfl⟩
      obtain ⟨m, hm⟩ : ∃ m, x 3 = m := ⟨_, rfl⟩
      have b2 := HFt.out.len
      have b3 := HFt.out.win
      rw [hl] at c2 b2
      rw [hm] at c3 b3
      have HL := Lib.hid hl
      have HM := Lib.hid hm
      have z0 : 1 ≤ m * l := Int.mul_pos (by omega) (by omega)
      have z1 : m * l ≤ 256 * 1000 := Int.mul_le_mul b3.2 b2.2 (by omega) (by omega)
      obtain ⟨k, hk⟩ : ∃ k, m * l = k := ⟨_, rfl⟩
      rw [hk] at z0 z1
      have HK := Lib.hid hk
      have q1 : IntKind.i64.wrap (m * l) = k := by rw [hk]; exact wrapI _ (by omega) (by omega)
      clear hl hm hk b2 b3
      have HR := Lib.hid (show flN x h = max (h - k + 1) 1 by rw [HV.out, HL.out, HM.out, HK.out])
      clear HV
      have HR1 := Lib.hid (fun (hb : h - k + 1 ≤ 1) => HR.out.trans (show max (h - k + 1) 1 = 1 by omega))
      have HR2 := Lib.hid (fun (hb : 1 ≤ h - k + 1) => HR.out.trans (show max (h - k + 1) 1 = h - k + 1 by omega))
      go_wp2_with fail
      all_goals go_ret2
      all_goals first
        | exact ⟨by rw [HR1.out (by omega), HQ.out]; rfl, (B0.out.trans hS.out.2.2)⟩
        | exact ⟨by rw [HR2.out (by omega), HQ.out]; rfl, (B0.out.trans hS.out.2.2)⟩
    · have HV := Lib.hid (show flN x h = 0 from if_neg (by rw [HQ.out]; exact h0))
      go_wp2_with fail
      go_ret2
      exact ⟨by rw [HV.out, HQ.out]; rfl, B0.out.trans hS.out.2.2⟩

set_option maxRecDepth 100000 in
set_option maxHeartbeats 4000000 in
theorem untilC (x : Nat → Int) (hx : Kinds x) (h : Int) (w : World) :
    Calls Try.prog 14 #[.agg (recC x).toArray, .int .i64 h] w fun e w' => e = .returned (.tuple #[.int .i64 (unN x h), .int .i64 (e1 x h)]) ∧ Bel w w' := by
  obtain ⟨D, hD⟩ : ∃ D, D = recC x := ⟨_, rfl⟩
  obtain ⟨W0, hW0⟩ : ∃ W0, w.alloc (.cells D.toArray 24) = W0 := ⟨_, rfl⟩
  have B0 := Lib.hid (show Bel w W0 by rw [← hW0]; exact (Bel.refl w).alloc _)
  have R0 := Lib.hid (show W0.rangeAt w.heap.size 0 D by rw [← hW0]; exact rngB (Blk.new w D.toArray 24))
  obtain ⟨p, hp⟩ : ∃ p, w.heap.size = p := ⟨_, rfl⟩
  have hp1 := Lib.hid (show p < W0.heap.size by rw [← hW0, ← hp, World.size_alloc]; omega)
  rw [hp] at R0
  have hDl : D.length = 11 := by rw [hD]; rfl
  obtain ⟨c0, hc0⟩ : ∃ k_, wi h = k_ := ⟨_, rfl⟩
  obtain ⟨q, hq⟩ : ∃ q, er x [c0] = q := ⟨_, rfl⟩
  obtain ⟨Y, hY⟩ : ∃ Y, recC (yz x q) = Y := ⟨_, rfl⟩
  have HC0 := Lib.hid (fun V => checkH h V)
  rw [hc0] at HC0
  have CK := Lib.hid (fun (V : World) (g : Nat) (hi : Ints .i64 V (some ⟨g, 0, none⟩) 1 [c0]) => check_ x hx (some ⟨g, 0, none⟩) 1 1 [c0] V (by omega) hi)
  rw [hq, hY, ← hD] at CK
  rw [← hD]
  have iD : (Try.prog.info? 24).map (·.size) = some D.length := by rw [hDl]; exact info_rec
  have uD := Try.underlying24
  have YL := Lib.hid (show Y.length = 11 by rw [← hY]; rfl)
  have YO := Lib.hid (all_oneCell_toArray (cs := Y) (by rw [← hY]; exact recC_cells _))
  have HDl := Lib.hid hDl
  have HX := Lib.hid hx
  have HP := Lib.hid hp
  have HW0 := Lib.hid hW0
  have HQ := Lib.hid (show e1 x h = q by rw [← hq, ← hc0]; rfl)
  have HY := Lib.hid hY
  have HD := Lib.hid hD
  clear hx hp hD hW0 hq hY hDl hc0
  go_enter Try.func14, Try.ntmps14
  go_upto_region 1 with fail
  rw [HW0.out, HP.out]
  have KEEP := Lib.hid (show ∀ V V' : World, (V.rangeAt p 0 D ∧ Bel W0 V) → Bel V V' → (V'.rangeAt p 0 D ∧ Bel W0 V') from fun V V' h hb => ⟨rng_bel h.1 hb, h.2.trans hb⟩)
  go_cut [6, 7] (fun s6 s7 wx => ∃ g : Nat, s6 = .pointer (some ⟨g, 0, none⟩) ∧ s7 = .int .i64 q ∧ Hid (wx.rangeAt p 0 D ∧ wx.rangeAt g 0 Y ∧ Bel W0 wx))
  case first =>
    refine wp_region_held_drew (S := fun V => V.rangeAt p 0 D ∧ Bel W0 V) (by kernel_rfl) ⟨rng_bel R0.out (Bel.refl W0).drew, (Bel.refl W0).drew⟩ (fun hS0 => ?_)
    obtain ⟨w6, hw6⟩ : ∃ w6, W0.drew = w6 := ⟨_, rfl⟩
    rw [hw6] at hS0 ⊢
    clear hw6
    have hp1 := hp1.out
    refine wpAnyH_take (i := 0) (oi := { dst := some 9, op := .load 24 (.tmp 2), type := 24, pos := "period.go:79", after := #[], guard := none }) (v := .agg D.toArray) rfl (by kernel_rfl) (by kernel_rfl) (by kernel_rfl) (fun _ _ _ h => h) (yieldsIf_load_mid (by rfl) _ _ rfl _ _ rfl _ _ (fun w h => h.1) uD rfl iD) hS0 ?_
    try simp only [Act.put, List.setIfInBounds_toArray, List.set_cons_zero, List.set_cons_succ]
    refine wpAnyH_take (i := 1) (oi := { dst := some 10, op := .move (.tmp 1), type := 3, pos := "period.go:79", after := #[], guard := none }) (v := .int .i64 h) rfl (by kernel_rfl) (by kernel_rfl) (by kernel_rfl) (fun _ _ _ h => h) (Or.inl ⟨by rfl, by intro w hSw; clear hSw; go_simp⟩) hS0 ?_
    try simp only [Act.put, List.setIfInBounds_toArray, List.set_cons_zero, List.set_cons_succ]
    refine wpAnyH_ready (rs := [2, 8]) (by kernel_rfl) (by simp) ?_
    refine AllReadyH.cons (o := { dst := some 11, op := .call { callee := .value (.func 34), args := #[.tmp 10], argTypes := #[43] }, type := 25, pos := "period.go:79", after := #[{ on := 1, ground := .data }], guard := none }) rfl (fun K hK => ?_) (AllReadyH.cons (o := { dst := some 6, op := .alloc 40, type := 0, pos := "period.go:79", after := #[], guard := none }) rfl (fun K hK => ?_) AllReadyH.nil)
    · go_simp
      refine (HC0.out _).mono ?_
      rintro e v1 ⟨rfl, rfl⟩
      go_wp2_with fail
      refine hK.out _ _ hS0 (fun _ => ?_)
      clear hK K
      try simp only [Act.put, List.setIfInBounds_toArray, List.set_cons_zero, List.set_cons_succ]
      refine wpAnyH_ready (rs := [3, 8]) (by kernel_rfl) (by simp) ?_
      refine AllReadyH.cons (o := { dst := some 12, op := .buildSlice 59 1 #[(0, .tmp 11)], type := 59, pos := "period.go:79", after := #[{ on := 2, ground := .data }], guard := none }) rfl (fun K hK => ?_) (AllReadyH.cons (o := { dst := some 6, op := .alloc 40, type := 0, pos := "period.go:79", after := #[], guard := none }) rfl (fun K hK => ?_) AllReadyH.nil)
      · go_simp
        have hS2 := KEEP.out _ _ hS0 ((Bel.refl w6).alloc (.cells #[.int .i64 c0] 25))
        refine hK.out _ _ hS2 (fun _ => ?_)
        clear hK K
        try simp only [Act.put, List.setIfInBounds_toArray, List.set_cons_zero, List.set_cons_succ]
        have L2 := lit1 w6 c0
        obtain ⟨b, hb⟩ : ∃ b, w6.heap.size = b := ⟨_, rfl⟩
        obtain ⟨v2, hv⟩ : ∃ v, w6.alloc (.cells #[.int .i64 c0] 25) = v := ⟨_, rfl⟩
        rw [hv] at hS2 L2 ⊢
        rw [hb] at L2 ⊢
        clear hb hv
        refine wpAnyH_ready (rs := [4, 8]) (by kernel_rfl) (by simp) ?_
        refine AllReadyH.cons (o := { dst := some 13, op := .call { callee := .value (.func 33), args := #[.tmp 9, .tmp 12], argTypes := #[24, 59] }, type := 41, pos := "period.go:79", after := #[{ on := 0, ground := .data }, { on := 3, ground := .data }, { on := 2, ground := .chain }], guard := none }) rfl (fun K hK => ?_) (AllReadyH.cons (o := { dst := some 6, op := .alloc 40, type := 0, pos := "period.go:79", after := #[], guard := none }) rfl (fun K hK => ?_) AllReadyH.nil)
        · go_simp
          refine (CK.out _ _ L2).mono ?_
          rintro e v3 ⟨rfl, k3⟩
          go_wp2_with fail
          have hS3 := KEEP.out _ _ hS2 k3
          refine hK.out _ _ hS3 (fun _ => ?_)
          clear hK K
          try simp only [Act.put, List.setIfInBounds_toArray, List.set_cons_zero, List.set_cons_succ]
          clear k3
          refine wpAnyH_take (i := 5) (oi := { dst := some 8, op := .move (.tmp 13), type := 41, pos := "period.go:79", after := #[{ on := 4, ground := .data }], guard := none }) (v := .tuple #[.agg Y.toArray, .int .i64 q]) rfl (by kernel_rfl) (by kernel_rfl) (by kernel_rfl) (fun _ _ _ h => h) (Or.inl ⟨by rfl, by intro w hSw; clear hSw; go_simp⟩) hS3 ?_
          try simp only [Act.put, List.setIfInBounds_toArray, List.set_cons_zero, List.set_cons_succ]
          refine wpAnyH_take (i := 6) (oi := { dst := some 14, op := .extract (.tmp 8) 0, type := 40, pos := "period.go:79", after := #[{ on := 5, ground := .data }], guard := none }) (v := .agg Y.toArray) rfl (by kernel_rfl) (by kernel_rfl) (by kernel_rfl) (fun _ _ _ h => h) (Or.inl ⟨by rfl, by intro w hSw; clear hSw; go_simp⟩) hS3 ?_
          try simp only [Act.put, List.setIfInBounds_toArray, List.set_cons_zero, List.set_cons_succ]
          refine wpAnyH_take (i := 7) (oi := { dst := some 15, op := .extract (.tmp 8) 1, type := 25, pos := "period.go:79", after := #[{ on := 5, ground := .data }, { on := 9, ground := .gcOnly .lateStores }], guard := none }) (v := .int .i64 q) rfl (by kernel_rfl) (by kernel_rfl) (by kernel_rfl) (fun _ _ _ h => h) (Or.inl ⟨by rfl, by intro w hSw; clear hSw; go_simp⟩) hS3 ?_
          try simp only [Act.put, List.setIfInBounds_toArray, List.set_cons_zero, List.set_cons_succ]
          refine wpAnyH_ready (rs := [8]) (by kernel_rfl) (by simp) ?_
          refine AllReadyH.cons (o := { dst := some 6, op := .alloc 40, type := 0, pos := "period.go:79", after := #[], guard := none }) rfl (fun K hK => ?_) AllReadyH.nil
          go_simp
          have hS4 := KEEP.out _ _ hS3 ((Bel.refl v3).alloc (.cells #[.int .i64 0, .int .i64 0, .int .i64 0, .int .i64 0, .int .i64 0, .int .i64 0, .int .i64 0, .int .u64 0, .int .u64 0, .int .i64 0, .int .u64 0] 40))
          refine hK.out _ _ hS4 (fun _ => ?_)
          clear hK K
          try simp only [Act.put, List.setIfInBounds_toArray, List.set_cons_zero, List.set_cons_succ]
          have G4 : Blk (v3.alloc (.cells #[.int .i64 0, .int .i64 0, .int .i64 0, .int .i64 0, .int .i64 0, .int .i64 0, .int .i64 0, .int .u64 0, .int .u64 0, .int .i64 0, .int .u64 0] 40)) v3.heap.size (recC fun _ => 0).toArray 40 := Blk.new v3 _ _
          have hg0 := Below.size hS3.2
          obtain ⟨g, hg⟩ : ∃ g, v3.heap.size = g := ⟨_, rfl⟩
          obtain ⟨v4, hv⟩ : ∃ v, v3.alloc (.cells #[.int .i64 0, .int .i64 0, .int .i64 0, .int .i64 0, .int .i64 0, .int .i64 0, .int .i64 0, .int .u64 0, .int .u64 0, .int .i64 0, .int .u64 0] 40) = v := ⟨_, rfl⟩
          rw [hv] at hS4 G4 ⊢
          rw [hg] at G4 hg0 ⊢
          clear hg hv
          refine wpAnyH_ready (rs := [9]) (by kernel_rfl) (by simp) ?_
          refine AllReadyH.cons (o := { dst := none, op := .store 40 (.tmp 6) (.tmp 14), type := 0, pos := "period.go:79", after := #[{ on := 8, ground := .data }, { on := 6, ground := .data }, { on := 4, ground := .chain }, { on := 0, ground := .phase }, { on := 1, ground := .phase }, { on := 2, ground := .phase }, { on := 3, ground := .phase }, { on := 4, ground := .phase }, { on := 5, ground := .phase }, { on := 6, ground := .phase }, { on := 7, ground := .textOnly .lateStores }, { on := 8, ground := .phase }], guard := none }) rfl (fun K hK => ?_) AllReadyH.nil
          rw [if_pos (by rfl)]
          refine wp_store_mid 40 (.tmp 6) (.tmp 14) rfl g 0 Y.toArray rfl rfl (put11 _ Y YL.out rfl G4).1 (by rw [List.size_toArray, YL.out]; exact info_chd) YO.out ?_
          refine hK.out _ _ (put_S hS4.1 hS4.2 hg0 YL.out G4) (fun hS5 => ?_)
          have E5 := put_E hS4.1 hS4.2 hg0 YL.out G4
          clear hK K
          try simp only [Act.put]
          refine wpAnyH_take (i := 10) (oi := { dst := some 7, op := .assign (.tmp 15), type := 25, pos := "period.go:79", after := #[{ on := 7, ground := .data }, { on := 9, ground := .chain }, { on := 0, ground := .phase }, { on := 1, ground := .phase }, { on := 2, ground := .phase }, { on := 3, ground := .phase }, { on := 4, ground := .phase }, { on := 5, ground := .phase }, { on := 6, ground := .phase }, { on := 7, ground := .phase }, { on := 8, ground := .phase }, { on := 9, ground := .phase }], guard := none }) (v := .int .i64 q) rfl (by kernel_rfl) (by kernel_rfl) (by kernel_rfl) (fun _ _ _ h => h) (Or.inl ⟨by rfl, by intro w hSw; clear hSw; go_simp⟩) hS5 ?_
          try simp only [Act.put, List.setIfInBounds_toArray, List.set_cons_zero, List.set_cons_succ]
          refine wpAnyH_done (by kernel_rfl) ?_ _
          go_wp2_with fail
          go_meet
          exact ⟨g, rfl, rfl, E5⟩
        · go_simp
          have hS6 := KEEP.out _ _ hS2 ((Bel.refl v2).alloc (.cells #[.int .i64 0, .int .i64 0, .int .i64 0, .int .i64 0, .int .i64 0, .int .i64 0, .int .i64 0, .int .u64 0, .int .u64 0, .int .i64 0, .int .u64 0] 40))
          refine hK.out _ _ hS6 (fun _ => ?_)
          clear hK K
          try simp only [Act.put, List.setIfInBounds_toArray, List.set_cons_zero, List.set_cons_succ]
          have G6 : Blk (v2.alloc (.cells #[.int .i64 0, .int .i64 0, .int .i64 0, .int .i64 0, .int .i64 0, .int .i64 0, .int .i64 0, .int .u64 0, .int .u64 0, .int .i64 0, .int .u64 0] 40)) v2.heap.size (recC fun _ => 0).toArray 40 := Blk.new v2 _ _
          have hg0 := Below.size hS2.2
          obtain ⟨g, hg⟩ : ∃ g, v2.heap.size = g := ⟨_, rfl⟩
          obtain ⟨v6, hv⟩ : ∃ v, v2.alloc (.cells #[.int .i64 0, .int .i64 0, .int .i64 0, .int .i64 0, .int .i64 0, .int .i64 0, .int .i64 0, .int .u64 0, .int .u64 0, .int .i64 0, .int .u64 0] 40) = v := ⟨_, rfl⟩
          rw [hv] at hS6 G6 ⊢
          rw [hg] at G6 hg0 ⊢
          have L6 := L2.bel (show Bel v2 v6 by rw [← hv]; exact (Bel.refl _).alloc _)
          clear hg hv
          refine wpAnyH_ready (rs := [4]) (by kernel_rfl) (by simp) ?_
          refine AllReadyH.cons (o := { dst := some 13, op := .call { callee := .value (.func 33), args := #[.tmp 9, .tmp 12], argTypes := #[24, 59] }, type := 41, pos := "period.go:79", after := #[{ on := 0, ground := .data }, { on := 3, ground := .data }, { on := 2, ground := .chain }], guard := none }) rfl (fun K hK => ?_) AllReadyH.nil
          go_simp
          refine (CK.out _ _ L6).mono ?_
          rintro e v7 ⟨rfl, k7⟩
          go_wp2_with fail
          have hS7 := KEEP.out _ _ hS6 k7
          refine hK.out _ _ hS7 (fun _ => ?_)
          clear hK K
          try simp only [Act.put, List.setIfInBounds_toArray, List.set_cons_zero, List.set_cons_succ]
          have G7 := G6.bel k7
          clear k7
          refine wpAnyH_take (i := 5) (oi := { dst := some 8, op := .move (.tmp 13), type := 41, pos := "period.go:79", after := #[{ on := 4, ground := .data }], guard := none }) (v := .tuple #[.agg Y.toArray, .int .i64 q]) rfl (by kernel_rfl) (by kernel_rfl) (by kernel_rfl) (fun _ _ _ h => h) (Or.inl ⟨by rfl, by intro w hSw; clear hSw; go_simp⟩) hS7 ?_
          try simp only [Act.put, List.setIfInBounds_toArray, List.set_cons_zero, List.set_cons_succ]
          refine wpAnyH_take (i := 6) (oi := { dst := some 14, op := .extract (.tmp 8) 0, type := 40, pos := "period.go:79", after := #[{ on := 5, ground := .data }], guard := none }) (v := .agg Y.toArray) rfl (by kernel_rfl) (by kernel_rfl) (by kernel_rfl) (fun _ _ _ h => h) (Or.inl ⟨by rfl, by intro w hSw; clear hSw; go_simp⟩) hS7 ?_
          try simp only [Act.put, List.setIfInBounds_toArray, List.set_cons_zero, List.set_cons_succ]
          refine wpAnyH_take (i := 7) (oi := { dst := some 15, op := .extract (.tmp 8) 1, type := 25, pos := "period.go:79", after := #[{ on := 5, ground := .data }, { on := 9, ground := .gcOnly .lateStores }], guard := none }) (v := .int .i64 q) rfl (by kernel_rfl) (by kernel_rfl) (by kernel_rfl) (fun _ _ _ h => h) (Or.inl ⟨by rfl, by intro w hSw; clear hSw; go_simp⟩) hS7 ?_
          try simp only [Act.put, List.setIfInBounds_toArray, List.set_cons_zero, List.set_cons_succ]
          refine wpAnyH_ready (rs := [9]) (by kernel_rfl) (by simp) ?_
          refine AllReadyH.cons (o := { dst := none, op := .store 40 (.tmp 6) (.tmp 14), type := 0, pos := "period.go:79", after := #[{ on := 8, ground := .data }, { on := 6, ground := .data }, { on := 4, ground := .chain }, { on := 0, ground := .phase }, { on := 1, ground := .phase }, { on := 2, ground := .phase }, { on := 3, ground := .phase }, { on := 4, ground := .phase }, { on := 5, ground := .phase }, { on := 6, ground := .phase }, { on := 7, ground := .textOnly .lateStores }, { on := 8, ground := .phase }], guard := none }) rfl (fun K hK => ?_) AllReadyH.nil
          rw [if_pos (by rfl)]
          refine wp_store_mid 40 (.tmp 6) (.tmp 14) rfl g 0 Y.toArray rfl rfl (put11 _ Y YL.out rfl G7).1 (by rw [List.size_toArray, YL.out]; exact info_chd) YO.out ?_
          refine hK.out _ _ (put_S hS7.1 hS7.2 hg0 YL.out G7) (fun hS8 => ?_)
          have E8 := put_E hS7.1 hS7.2 hg0 YL.out G7
          clear hK K
          try simp only [Act.put]
          refine wpAnyH_take (i := 10) (oi := { dst := some 7, op := .assign (.tmp 15), type := 25, pos := "period.go:79", after := #[{ on := 7, ground := .data }, { on := 9, ground := .chain }, { on := 0, ground := .phase }, { on := 1, ground := .phase }, { on := 2, ground := .phase }, { on := 3, ground := .phase }, { on := 4, ground := .phase }, { on := 5, ground := .phase }, { on := 6, ground := .phase }, { on := 7, ground := .phase }, { on := 8, ground := .phase }, { on := 9, ground := .phase }], guard := none }) (v := .int .i64 q) rfl (by kernel_rfl) (by kernel_rfl) (by kernel_rfl) (fun _ _ _ h => h) (Or.inl ⟨by rfl, by intro w hSw; clear hSw; go_simp⟩) hS8 ?_
          try simp only [Act.put, List.setIfInBounds_toArray, List.set_cons_zero, List.set_cons_succ]
          refine wpAnyH_done (by kernel_rfl) ?_ _
          go_wp2_with fail
          go_meet
          exact ⟨g, rfl, rfl, E8⟩
      · go_simp
        have hS9 := KEEP.out _ _ hS0 ((Bel.refl w6).alloc (.cells #[.int .i64 0, .int .i64 0, .int .i64 0, .int .i64 0, .int .i64 0, .int .i64 0, .int .i64 0, .int .u64 0, .int .u64 0, .int .i64 0, .int .u64 0] 40))
        refine hK.out _ _ hS9 (fun _ => ?_)
        clear hK K
        try simp only [Act.put, List.setIfInBounds_toArray, List.set_cons_zero, List.set_cons_succ]
        have G9 : Blk (w6.alloc (.cells #[.int .i64 0, .int .i64 0, .int .i64 0, .int .i64 0, .int .i64 0, .int .i64 0, .int .i64 0, .int .u64 0, .int .u64 0, .int .i64 0, .int .u64 0] 40)) w6.heap.size (recC fun _ => 0).toArray 40 := Blk.new w6 _ _
        have hg0 := Below.size hS0.2
        obtain ⟨g, hg⟩ : ∃ g, w6.heap.size = g := ⟨_, rfl⟩
        obtain ⟨v9, hv⟩ : ∃ v, w6.alloc (.cells #[.int .i64 0, .int .i64 0, .int .i64 0, .int .i64 0, .int .i64 0, .int .i64 0, .int .i64 0, .int .u64 0, .int .u64 0, .int .i64 0, .int .u64 0] 40) = v := ⟨_, rfl⟩
        rw [hv] at hS9 G9 ⊢
        rw [hg] at G9 hg0 ⊢
        clear hg hv
        refine wpAnyH_ready (rs := [3]) (by kernel_rfl) (by simp) ?_
        refine AllReadyH.cons (o := { dst := some 12, op := .buildSlice 59 1 #[(0, .tmp 11)], type := 59, pos := "period.go:79", after := #[{ on := 2, ground := .data }], guard := none }) rfl (fun K hK => ?_) AllReadyH.nil
        go_simp
        have hS10 := KEEP.out _ _ hS9 ((Bel.refl v9).alloc (.cells #[.int .i64 c0] 25))
        refine hK.out _ _ hS10 (fun _ => ?_)
        clear hK K
        try simp only [Act.put, List.setIfInBounds_toArray, List.set_cons_zero, List.set_cons_succ]
        have L10 := lit1 v9 c0
        obtain ⟨b, hb⟩ : ∃ b, v9.heap.size = b := ⟨_, rfl⟩
        obtain ⟨v10, hv⟩ : ∃ v, v9.alloc (.cells #[.int .i64 c0] 25) = v := ⟨_, rfl⟩
        rw [hv] at hS10 L10 ⊢
        rw [hb] at L10 ⊢
        have G10 := G9.bel (show Bel v9 v10 by rw [← hv]; exact (Bel.refl _).alloc _)
        clear hb hv
        refine wpAnyH_ready (rs := [4]) (by kernel_rfl) (by simp) ?_
        refine AllReadyH.cons (o := { dst := some 13, op := .call { callee := .value (.func 33), args := #[.tmp 9, .tmp 12], argTypes := #[24, 59] }, type := 41, pos := "period.go:79", after := #[{ on := 0, ground := .data }, { on := 3, ground := .data }, { on := 2, ground := .chain }], guard := none }) rfl (fun K hK => ?_) AllReadyH.nil
        go_simp
        refine (CK.out _ _ L10).mono ?_
        rintro e v11 ⟨rfl, k11⟩
        go_wp2_with fail
        have hS11 := KEEP.out _ _ hS10 k11
        refine hK.out _ _ hS11 (fun _ => ?_)
        clear hK K
        try simp only [Act.put, List.setIfInBounds_toArray, List.set_cons_zero, List.set_cons_succ]
        have G11 := G10.bel k11
        clear k11
        refine wpAnyH_take (i := 5) (oi := { dst := some 8, op := .move (.tmp 13), type := 41, pos := "period.go:79", after := #[{ on := 4, ground := .data }], guard := none }) (v := .tuple #[.agg Y.toArray, .int .i64 q]) rfl (by kernel_rfl) (by kernel_rfl) (by kernel_rfl) (fun _ _ _ h => h) (Or.inl ⟨by rfl, by intro w hSw; clear hSw; go_simp⟩) hS11 ?_
        try simp only [Act.put, List.setIfInBounds_toArray, List.set_cons_zero, List.set_cons_succ]
        refine wpAnyH_take (i := 6) (oi := { dst := some 14, op := .extract (.tmp 8) 0, type := 40, pos := "period.go:79", after := #[{ on := 5, ground := .data }], guard := none }) (v := .agg Y.toArray) rfl (by kernel_rfl) (by kernel_rfl) (by kernel_rfl) (fun _ _ _ h => h) (Or.inl ⟨by rfl, by intro w hSw; clear hSw; go_simp⟩) hS11 ?_
        try simp only [Act.put, List.setIfInBounds_toArray, List.set_cons_zero, List.set_cons_succ]
        refine wpAnyH_take (i := 7) (oi := { dst := some 15, op := .extract (.tmp 8) 1, type := 25, pos := "period.go:79", after := #[{ on := 5, ground := .data }, { on := 9, ground := .gcOnly .lateStores }], guard := none }) (v := .int .i64 q) rfl (by kernel_rfl) (by kernel_rfl) (by kernel_rfl) (fun _ _ _ h => h) (Or.inl ⟨by rfl, by intro w hSw; clear hSw; go_simp⟩) hS11 ?_
        try simp only [Act.put, List.setIfInBounds_toArray, List.set_cons_zero, List.set_cons_succ]
        refine wpAnyH_ready (rs := [9]) (by kernel_rfl) (by simp) ?_
        refine AllReadyH.cons (o := { dst := none, op := .store 40 (.tmp 6) (.tmp 14), type := 0, pos := "period.go:79", after := #[{ on := 8, ground := .data }, { on := 6, ground := .data }, { on := 4, ground := .chain }, { on := 0, ground := .phase }, { on := 1, ground := .phase }, { on := 2, ground := .phase }, { on := 3, ground := .phase }, { on := 4, ground := .phase }, { on := 5, ground := .phase }, { on := 6, ground := .phase }, { on := 7, ground := .textOnly .lateStores }, { on := 8, ground := .phase }], guard := none }) rfl (fun K hK => ?_) AllReadyH.nil
        rw [if_pos (by rfl)]
        refine wp_store_mid 40 (.tmp 6) (.tmp 14) rfl g 0 Y.toArray rfl rfl (put11 _ Y YL.out rfl G11).1 (by rw [List.size_toArray, YL.out]; exact info_chd) YO.out ?_
        refine hK.out _ _ (put_S hS11.1 hS11.2 hg0 YL.out G11) (fun hS12 => ?_)
        have E12 := put_E hS11.1 hS11.2 hg0 YL.out G11
        clear hK K
        try simp only [Act.put]
        refine wpAnyH_take (i := 10) (oi := { dst := some 7, op := .assign (.tmp 15), type := 25, pos := "period.go:79", after := #[{ on := 7, ground := .data }, { on := 9, ground := .chain }, { on := 0, ground := .phase }, { on := 1, ground := .phase }, { on := 2, ground := .phase }, { on := 3, ground := .phase }, { on := 4, ground := .phase }, { on := 5, ground := .phase }, { on := 6, ground := .phase }, { on := 7, ground := .phase }, { on := 8, ground := .phase }, { on := 9, ground := .phase }], guard := none }) (v := .int .i64 q) rfl (by kernel_rfl) (by kernel_rfl) (by kernel_rfl) (fun _ _ _ h => h) (Or.inl ⟨by rfl, by intro w hSw; clear hSw; go_simp⟩) hS12 ?_
        try simp only [Act.put, List.setIfInBounds_toArray, List.set_cons_zero, List.set_cons_succ]
        refine wpAnyH_done (by kernel_rfl) ?_ _
        go_wp2_with fail
        go_meet
        exact ⟨g, rfl, rfl, E12⟩
    · go_simp
      have hS13 := KEEP.out _ _ hS0 ((Bel.refl w6).alloc (.cells #[.int .i64 0, .int .i64 0, .int .i64 0, .int .i64 0, .int .i64 0, .int .i64 0, .int .i64 0, .int .u64 0, .int .u64 0, .int .i64 0, .int .u64 0] 40))
      refine hK.out _ _ hS13 (fun _ => ?_)
      clear hK K
      try simp only [Act.put, List.setIfInBounds_toArray, List.set_cons_zero, List.set_cons_succ]
      have G13 : Blk (w6.alloc (.cells #[.int .i64 0, .int .i64 0, .int .i64 0, .int .i64 0, .int .i64 0, .int .i64 0, .int .i64 0, .int .u64 0, .int .u64 0, .int .i64 0, .int .u64 0] 40)) w6.heap.size (recC fun _ => 0).toArray 40 := Blk.new w6 _ _
      have hg0 := Below.size hS0.2
      obtain ⟨g, hg⟩ : ∃ g, w6.heap.size = g := ⟨_, rfl⟩
      obtain ⟨v13, hv⟩ : ∃ v, w6.alloc (.cells #[.int .i64 0, .int .i64 0, .int .i64 0, .int .i64 0, .int .i64 0, .int .i64 0, .int .i64 0, .int .u64 0, .int .u64 0, .int .i64 0, .int .u64 0] 40) = v := ⟨_, rfl⟩
      rw [hv] at hS13 G13 ⊢
      rw [hg] at G13 hg0 ⊢
      clear hg hv
      refine wpAnyH_ready (rs := [2]) (by kernel_rfl) (by simp) ?_
      refine AllReadyH.cons (o := { dst := some 11, op := .call { callee := .value (.func 34), args := #[.tmp 10], argTypes := #[43] }, type := 25, pos := "period.go:79", after := #[{ on := 1, ground := .data }], guard := none }) rfl (fun K hK => ?_) AllReadyH.nil
      go_simp
      refine (HC0.out _).mono ?_
      rintro e v14 ⟨rfl, rfl⟩
      go_wp2_with fail
      refine hK.out _ _ hS13 (fun _ => ?_)
      clear hK K
      try simp only [Act.put, List.setIfInBounds_toArray, List.set_cons_zero, List.set_cons_succ]
      refine wpAnyH_ready (rs := [3]) (by kernel_rfl) (by simp) ?_
      refine AllReadyH.cons (o := { dst := some 12, op := .buildSlice 59 1 #[(0, .tmp 11)], type := 59, pos := "period.go:79", after := #[{ on := 2, ground := .data }], guard := none }) rfl (fun K hK => ?_) AllReadyH.nil
      go_simp
      have hS15 := KEEP.out _ _ hS13 ((Bel.refl v13).alloc (.cells #[.int .i64 c0] 25))
      refine hK.out _ _ hS15 (fun _ => ?_)
      clear hK K
      try simp only [Act.put, List.setIfInBounds_toArray, List.set_cons_zero, List.set_cons_succ]
      have L15 := lit1 v13 c0
      obtain ⟨b, hb⟩ : ∃ b, v13.heap.size = b := ⟨_, rfl⟩
      obtain ⟨v15, hv⟩ : ∃ v, v13.alloc (.cells #[.int .i64 c0] 25) = v := ⟨_, rfl⟩
      rw [hv] at hS15 L15 ⊢
      rw [hb] at L15 ⊢
      have G15 := G13.bel (show Bel v13 v15 by rw [← hv]; exact (Bel.refl _).alloc _)
      clear hb hv
      refine wpAnyH_ready (rs := [4]) (by kernel_rfl) (by simp) ?_
      refine AllReadyH.cons (o := { dst := some 13, op := .call { callee := .value (.func 33), args := #[.tmp 9, .tmp 12], argTypes := #[24, 59] }, type := 41, pos := "period.go:79", after := #[{ on := 0, ground := .data }, { on := 3, ground := .data }, { on := 2, ground := .chain }], guard := none }) rfl (fun K hK => ?_) AllReadyH.nil
      go_simp
      refine (CK.out _ _ L15).mono ?_
      rintro e v16 ⟨rfl, k16⟩
      go_wp2_with fail
      have hS16 := KEEP.out _ _ hS15 k16
      refine hK.out _ _ hS16 (fun _ => ?_)
      clear hK K
      try simp only [Act.put, List.setIfInBounds_toArray, List.set_cons_zero, List.set_cons_succ]
      have G16 := G15.bel k16
      clear k16
      refine wpAnyH_take (i := 5) (oi := { dst := some 8, op := .move (.tmp 13), type := 41, pos := "period.go:79", after := #[{ on := 4, ground := .data }], guard := none }) (v := .tuple #[.agg Y.toArray, .int .i64 q]) rfl (by kernel_rfl) (by kernel_rfl) (by kernel_rfl) (fun _ _ _ h => h) (Or.inl ⟨by rfl, by intro w hSw; clear hSw; go_simp⟩) hS16 ?_
      try simp only [Act.put, List.setIfInBounds_toArray, List.set_cons_zero, List.set_cons_succ]
      refine wpAnyH_take (i := 6) (oi := { dst := some 14, op := .extract (.tmp 8) 0, type := 40, pos := "period.go:79", after := #[{ on := 5, ground := .data }], guard := none }) (v := .agg Y.toArray) rfl (by kernel_rfl) (by kernel_rfl) (by kernel_rfl) (fun _ _ _ h => h) (Or.inl ⟨by rfl, by intro w hSw; clear hSw; go_simp⟩) hS16 ?_
      try simp only [Act.put, List.setIfInBounds_toArray, List.set_cons_zero, List.set_cons_succ]
      refine wpAnyH_take (i := 7) (oi := { dst := some 15, op := .extract (.tmp 8) 1, type := 25, pos := "period.go:79", after := #[{ on := 5, ground := .data }, { on := 9, ground := .gcOnly .lateStores }], guard := none }) (v := .int .i64 q) rfl (by kernel_rfl) (by kernel_rfl) (by kernel_rfl) (fun _ _ _ h => h) (Or.inl ⟨by rfl, by intro w hSw; clear hSw; go_simp⟩) hS16 ?_
      try simp only [Act.put, List.setIfInBounds_toArray, List.set_cons_zero, List.set_cons_succ]
      refine wpAnyH_ready (rs := [9]) (by kernel_rfl) (by simp) ?_
      refine AllReadyH.cons (o := { dst := none, op := .store 40 (.tmp 6) (.tmp 14), type := 0, pos := "period.go:79", after := #[{ on := 8, ground := .data }, { on := 6, ground := .data }, { on := 4, ground := .chain }, { on := 0, ground := .phase }, { on := 1, ground := .phase }, { on := 2, ground := .phase }, { on := 3, ground := .phase }, { on := 4, ground := .phase }, { on := 5, ground := .phase }, { on := 6, ground := .phase }, { on := 7, ground := .textOnly .lateStores }, { on := 8, ground := .phase }], guard := none }) rfl (fun K hK => ?_) AllReadyH.nil
      rw [if_pos (by rfl)]
      refine wp_store_mid 40 (.tmp 6) (.tmp 14) rfl g 0 Y.toArray rfl rfl (put11 _ Y YL.out rfl G16).1 (by rw [List.size_toArray, YL.out]; exact info_chd) YO.out ?_
      refine hK.out _ _ (put_S hS16.1 hS16.2 hg0 YL.out G16) (fun hS17 => ?_)
      have E17 := put_E hS16.1 hS16.2 hg0 YL.out G16
      clear hK K
      try simp only [Act.put]
      refine wpAnyH_take (i := 10) (oi := { dst := some 7, op := .assign (.tmp 15), type := 25, pos := "period.go:79", after := #[{ on := 7, ground := .data }, { on := 9, ground := .chain }, { on := 0, ground := .phase }, { on := 1, ground := .phase }, { on := 2, ground := .phase }, { on := 3, ground := .phase }, { on := 4, ground := .phase }, { on := 5, ground := .phase }, { on := 6, ground := .phase }, { on := 7, ground := .phase }, { on := 8, ground := .phase }, { on := 9, ground := .phase }], guard := none }) (v := .int .i64 q) rfl (by kernel_rfl) (by kernel_rfl) (by kernel_rfl) (fun _ _ _ h => h) (Or.inl ⟨by rfl, by intro w hSw; clear hSw; go_simp⟩) hS17 ?_
      try simp only [Act.put, List.setIfInBounds_toArray, List.set_cons_zero, List.set_cons_succ]
      refine wpAnyH_done (by kernel_rfl) ?_ _
      go_wp2_with fail
      go_meet
      exact ⟨g, rfl, rfl, E17⟩
  case rest =>
    obtain ⟨g, rfl, rfl, hS⟩ := hcut
    clear KEEP CK HC0
    have uC := Try.underlying40
    have iC := Lib.hid (show (Try.prog.info? 40).map (·.size) = some Y.length by rw [YL.out]; exact info_chd)
    by_cases h0 : q = 0
    · subst h0
      obtain ⟨hc, h1, h2⟩ := e1_zero HQ.out
      have HFt := Lib.hid (fit_of HX.out hc)
      have hY := HY.out
      rw [yz_zero] at hY
      have RG := Lib.hid (show wc.rangeAt g 0 (recC x) by rw [hY]; exact hS.out.2.1)
      have HV := Lib.hid (show unN x h = _ from if_pos HQ.out)
      clear hc hY
      have c6 := rec_cell RG.out 6 (by omega)
      rw [show kd 6 = .i64 from rfl] at c6
      obtain ⟨m, hm⟩ : ∃ m, x 6 = m := ⟨_, rfl⟩
      have b3 := HFt.out.jail
      rw [hm] at c6 b3
      have HM := Lib.hid hm
      clear hm
      go_wp2_with fail
      go_ret2
      exact ⟨by rw [HV.out, HQ.out, HM.out]; rfl, (B0.out.trans hS.out.2.2)⟩
    · have HV := Lib.hid (show unN x h = 0 from if_neg (by rw [HQ.out]; exact h0))
      go_wp2_with fail
      go_ret2
      exact ⟨by rw [HV.out, HQ.out]; rfl, B0.out.trans hS.out.2.2⟩
end Pd
end Go.Proofs.Ytlhahjpjlahdiaa
end

section
/-
  What period.Low answer. Conditions: the eleven numbers are of their kinds.
-/
namespace Go.Proofs.Ytlhahjpjlahdiaa
open Go.RowKit Go.Shelf
set_option linter.unusedVariables false
namespace Pd
open Kk Pm

set_option maxRecDepth 100000 in
set_option maxHeartbeats 4000000 in
theorem lowC (x : Nat → Int) (hx : Kinds x) (h : Int) (w : World) :
    Calls Try.prog 10 #[.agg (recC x).toArray, .int .i64 h] w fun e w' => e = .returned (.tuple #[.int .i64 (lowN x h), .int .i64 (e1 x h)]) ∧ Bel w w' := by
  obtain ⟨D, hD⟩ : ∃ D, D = recC x := ⟨_, rfl⟩
  obtain ⟨W0, hW0⟩ : ∃ W0, w.alloc (.cells D.toArray 24) = W0 := ⟨_, rfl⟩
  have B0 := Lib.hid (show Bel w W0 by rw [← hW0]; exact (Bel.refl w).alloc _)
  have R0 := Lib.hid (show W0.rangeAt w.heap.size 0 D by rw [← hW0]; exact rngB (Blk.new w D.toArray 24))
  obtain ⟨p, hp⟩ : ∃ p, w.heap.size = p := ⟨_, rfl⟩
  have hp1 := Lib.hid (show p < W0.heap.size by rw [← hW0, ← hp, World.size_alloc]; omega)
  rw [hp] at R0
  have hDl : D.length = 11 := by rw [hD]; rfl
  obtain ⟨c0, hc0⟩ : ∃ k_, wi h = k_ := ⟨_, rfl⟩
  obtain ⟨q, hq⟩ : ∃ q, er x [c0] = q := ⟨_, rfl⟩
  obtain ⟨Y, hY⟩ : ∃ Y, recC (yz x q) = Y := ⟨_, rfl⟩
  have HC0 := Lib.hid (fun V => checkH h V)
  rw [hc0] at HC0
  have CK := Lib.hid (fun (V : World) (g : Nat) (hi : Ints .i64 V (some ⟨g, 0, none⟩) 1 [c0]) => check_ x hx (some ⟨g, 0, none⟩) 1 1 [c0] V (by omega) hi)
  rw [hq, hY, ← hD] at CK
  rw [← hD]
  have iD : (Try.prog.info? 24).map (·.size) = some D.length := by rw [hDl]; exact info_rec
  have uD := Try.underlying24
  have YL := Lib.hid (show Y.length = 11 by rw [← hY]; rfl)
  have YO := Lib.hid (all_oneCell_toArray (cs := Y) (by rw [← hY]; exact recC_cells _))
  have HDl := Lib.hid hDl
  have HX := Lib.hid hx
  have HP := Lib.hid hp
  have HW0 := Lib.hid hW0
  have HQ := Lib.hid (show e1 x h = q by rw [← hq, ← hc0]; rfl)
  have HY := Lib.hid hY
  have HD := Lib.hid hD
  clear hx hp hD hW0 hq hY hDl hc0
  go_enter Try.func10, Try.ntmps10
  go_upto_region 1 with fail
  rw [HW0.out, HP.out]
  have KEEP := Lib.hid (show ∀ V V' : World, (V.rangeAt p 0 D ∧ Bel W0 V) → Bel V V' → (V'.rangeAt p 0 D ∧ Bel W0 V') from fun V V' h hb => ⟨rng_bel h.1 hb, h.2.trans hb⟩)
  go_cut [6, 7] (fun s6 s7 wx => ∃ g : Nat, s6 = .pointer (some ⟨g, 0, none⟩) ∧ s7 = .int .i64 q ∧ Hid (wx.rangeAt p 0 D ∧ wx.rangeAt g 0 Y ∧ Bel W0 wx))
  case first =>
    refine wp_region_held_drew (S := fun V => V.rangeAt p 0 D ∧ Bel W0 V) (by kernel_rfl) ⟨rng_bel R0.out (Bel.refl W0).drew, (Bel.refl W0).drew⟩ (fun hS0 => ?_)
    obtain ⟨w6, hw6⟩ : ∃ w6, W0.drew = w6 := ⟨_, rfl⟩
    rw [hw6] at hS0 ⊢
    clear hw6
    have hp1 := hp1.out
    refine wpAnyH_take (i := 0) (oi := { dst := some 9, op := .load 24 (.tmp 2), type := 24, pos := "period.go:29", after := #[], guard := none }) (v := .agg D.toArray) rfl (by kernel_rfl) (by kernel_rfl) (by kernel_rfl) (fun _ _ _ h => h) (yieldsIf_load_mid (by rfl) _ _ rfl _ _ rfl _ _ (fun w h => h.1) uD rfl iD) hS0 ?_
    try simp only [Act.put, List.setIfInBounds_toArray, List.set_cons_zero, List.set_cons_succ]
    refine wpAnyH_take (i := 1) (oi := { dst := some 10, op := .move (.tmp 1), type := 3, pos := "period.go:29", after := #[], guard := none }) (v := .int .i64 h) rfl (by kernel_rfl) (by kernel_rfl) (by kernel_rfl) (fun _ _ _ h => h) (Or.inl ⟨by rfl, by intro w hSw; clear hSw; go_simp⟩) hS0 ?_
    try simp only [Act.put, List.setIfInBounds_toArray, List.set_cons_zero, List.set_cons_succ]
    refine wpAnyH_ready (rs := [2, 8]) (by kernel_rfl) (by simp) ?_
    refine AllReadyH.cons (o := { dst := some 11, op := .call { callee := .value (.func 34), args := #[.tmp 10], argTypes := #[43] }, type := 25, pos := "period.go:29", after := #[{ on := 1, ground := .data }], guard := none }) rfl (fun K hK => ?_) (AllReadyH.cons (o := { dst := some 6, op := .alloc 40, type := 0, pos := "period.go:29", after := #[], guard := none }) rfl (fun K hK => ?_) AllReadyH.nil)
    · go_simp
      refine (HC0.out _).mono ?_
      rintro e v1 ⟨rfl, rfl⟩
      go_wp2_with fail
      refine hK.out _ _ hS0 (fun _ => ?_)
      clear hK K
      try simp only [Act.put, List.setIfInBounds_toArray, List.set_cons_zero, List.set_cons_succ]
      refine wpAnyH_ready (rs := [3, 8]) (by kernel_rfl) (by simp) ?_
      refine AllReadyH.cons (o := { dst := some 12, op := .buildSlice 59 1 #[(0, .tmp 11)], type := 59, pos := "period.go:29", after := #[{ on := 2, ground := .data }], guard := none }) rfl (fun K hK => ?_) (AllReadyH.cons (o := { dst := some 6, op := .alloc 40, type := 0, pos := "period.go:29", after := #[], guard := none }) rfl (fun K hK => ?_) AllReadyH.nil)
      · go_simp
        have hS2 := KEEP.out _ _ hS0 ((Bel.refl w6).alloc (.cells #[.int .i64 c0] 25))
        refine hK.out _ _ hS2 (fun _ => ?_)
        clear hK K
        try simp only [Act.put, List.setIfInBounds_toArray, List.set_cons_zero, List.set_cons_succ]
        have L2 := lit1 w6 c0
        obtain ⟨b, hb⟩ : ∃ b, w6.heap.size = b := ⟨_, rfl⟩
        obtain ⟨v2, hv⟩ : ∃ v, w6.alloc (.cells #[.int .i64 c0] 25) = v := ⟨_, rfl⟩
        rw [hv] at hS2 L2 ⊢
        rw [hb] at L2 ⊢
        clear hb hv
        refine wpAnyH_ready (rs := [4, 8]) (by kernel_rfl) (by simp) ?_
        refine AllReadyH.cons (o := { dst := some 13, op := .call { callee := .value (.func 33), args := #[.tmp 9, .tmp 12], argTypes := #[24, 59] }, type := 41, pos := "period.go:29", after := #[{ on := 0, ground := .data }, { on := 3, ground := .data }, { on := 2, ground := .chain }], guard := none }) rfl (fun K hK => ?_) (AllReadyH.cons (o := { dst := some 6, op := .alloc 40, type := 0, pos := "period.go:29", after := #[], guard := none }) rfl (fun K hK => ?_) AllReadyH.nil)
        · go_simp
          refine (CK.out _ _ L2).mono ?_
          rintro e v3 ⟨rfl, k3⟩
          go_wp2_with fail
          have hS3 := KEEP.out _ _ hS2 k3
          refine hK.out _ _ hS3 (fun _ => ?_)
          clear hK K
          try simp only [Act.put, List.setIfInBounds_toArray, List.set_cons_zero, List.set_cons_succ]
          clear k3
          refine wpAnyH_take (i := 5) (oi := { dst := some 8, op := .move (.tmp 13), type := 41, pos := "period.go:29", after := #[{ on := 4, ground := .data }], guard := none }) (v := .tuple #[.agg Y.toArray, .int .i64 q]) rfl (by kernel_rfl) (by kernel_rfl) (by kernel_rfl) (fun _ _ _ h => h) (Or.inl ⟨by rfl, by intro w hSw; clear hSw; go_simp⟩) hS3 ?_
          try simp only [Act.put, List.setIfInBounds_toArray, List.set_cons_zero, List.set_cons_succ]
          refine wpAnyH_take (i := 6) (oi := { dst := some 14, op := .extract (.tmp 8) 0, type := 40, pos := "period.go:29", after := #[{ on := 5, ground := .data }], guard := none }) (v := .agg Y.toArray) rfl (by kernel_rfl) (by kernel_rfl) (by kernel_rfl) (fun _ _ _ h => h) (Or.inl ⟨by rfl, by intro w hSw; clear hSw; go_simp⟩) hS3 ?_
          try simp only [Act.put, List.setIfInBounds_toArray, List.set_cons_zero, List.set_cons_succ]
          refine wpAnyH_take (i := 7) (oi := { dst := some 15, op := .extract (.tmp 8) 1, type := 25, pos := "period.go:29", after := #[{ on := 5, ground := .data }, { on := 9, ground := .gcOnly .lateStores }], guard := none }) (v := .int .i64 q) rfl (by kernel_rfl) (by kernel_rfl) (by kernel_rfl) (fun _ _ _ h => h) (Or.inl ⟨by rfl, by intro w hSw; clear hSw; go_simp⟩) hS3 ?_
          try simp only [Act.put, List.setIfInBounds_toArray, List.set_cons_zero, List.set_cons_succ]
          refine wpAnyH_ready (rs := [8]) (by kernel_rfl) (by simp) ?_
          refine AllReadyH.cons (o := { dst := some 6, op := .alloc 40, type := 0, pos := "period.go:29", after := #[], guard := none }) rfl (fun K hK => ?_) AllReadyH.nil
          go_simp
          have hS4 := KEEP.out _ _ hS3 ((Bel.refl v3).alloc (.cells #[.int .i64 0, .int .i64 0, .int .i64 0, .int .i64 0, .int .i64 0, .int .i64 0, .int .i64 0, .int .u64 0, .int .u64 0, .int .i64 0, .int .u64 0] 40))
          refine hK.out _ _ hS4 (fun _ => ?_)
          clear hK K
          try simp only [Act.put, List.setIfInBounds_toArray, List.set_cons_zero, List.set_cons_succ]
          have G4 : Blk (v3.alloc (.cells #[.int .i64 0, .int .i64 0, .int .i64 0, .int .i64 0, .int .i64 0, .int .i64 0, .int .i64 0, .int .u64 0, .int .u64 0, .int .i64 0, .int .u64 0] 40)) v3.heap.size (recC fun _ => 0).toArray 40 := Blk.new v3 _ _
          have hg0 := Below.size hS3.2
          obtain ⟨g, hg⟩ : ∃ g, v3.heap.size = g := ⟨_, rfl⟩
          obtain ⟨v4, hv⟩ : ∃ v, v3.alloc (.cells #[.int .i64 0, .int .i64 0, .int .i64 0, .int .i64 0, .int .i64 0, .int .i64 0, .int .i64 0, .int .u64 0, .int .u64 0, .int .i64 0, .int .u64 0] 40) = v := ⟨_, rfl⟩
          rw [hv] at hS4 G4 ⊢
          rw [hg] at G4 hg0 ⊢
          clear hg hv
          refine wpAnyH_ready (rs := [9]) (by kernel_rfl) (by simp) ?_
          refine AllReadyH.cons (o := { dst := none, op := .store 40 (.tmp 6) (.tmp 14), type := 0, pos := "period.go:29", after := #[{ on := 8, ground := .data }, { on := 6, ground := .data }, { on := 4, ground := .chain }, { on := 0, ground := .phase }, { on := 1, ground := .phase }, { on := 2, ground := .phase }, { on := 3, ground := .phase }, { on := 4, ground := .phase }, { on := 5, ground := .phase }, { on := 6, ground := .phase }, { on := 7, ground := .textOnly .lateStores }, { on := 8, ground := .phase }], guard := none }) rfl (fun K hK => ?_) AllReadyH.nil
          rw [if_pos (by rfl)]
          refine wp_store_mid 40 (.tmp 6) (.tmp 14) rfl g 0 Y.toArray rfl rfl (put11 _ Y YL.out rfl G4).1 (by rw [List.size_toArray, YL.out]; exact info_chd) YO.out ?_
          refine hK.out _ _ (put_S hS4.1 hS4.2 hg0 YL.out G4) (fun hS5 => ?_)
          have E5 := put_E hS4.1 hS4.2 hg0 YL.out G4
          clear hK K
          try simp only [Act.put]
          refine wpAnyH_take (i := 10) (oi := { dst := some 7, op := .assign (.tmp 15), type := 25, pos := "period.go:29", after := #[{ on := 7, ground := .data }, { on := 9, ground := .chain }, { on := 0, ground := .phase }, { on := 1, ground := .phase }, { on := 2, ground := .phase }, { on := 3, ground := .phase }, { on := 4, ground := .phase }, { on := 5, ground := .phase }, { on := 6, ground := .phase }, { on := 7, ground := .phase }, { on := 8, ground := .phase }, { on := 9, ground := .phase }], guard := none }) (v := .int .i64 q) rfl (by kernel_rfl) (by kernel_rfl) (by kernel_rfl) (fun _ _ _ h => h) (Or.inl ⟨by rfl, by intro w hSw; clear hSw; go_simp⟩) hS5 ?_
          try simp only [Act.put, List.setIfInBounds_toArray, List.set_cons_zero, List.set_cons_succ]
          refine wpAnyH_done (by kernel_rfl) ?_ _
          go_wp2_with fail
          go_meet
          exact ⟨g, rfl, rfl, E5⟩
        · go_simp
          have hS6 := KEEP.out _ _ hS2 ((Bel.refl v2).alloc (.cells #[.int .i64 0, .int .i64 0, .int .i64 0, .int .i64 0, .int .i64 0, .int .i64 0, .int .i64 0, .int .u64 0, .int .u64 0, .int .i64 0, .int .u64 0] 40))
          refine hK.out _ _ hS6 (fun _ => ?_)
          clear hK K
          try simp only [Act.put, List.setIfInBounds_toArray, List.set_cons_zero, List.set_cons_succ]
          have G6 : Blk (v2.alloc (.cells #[.int .i64 0, .int .i64 0, .int .i64 0, .int .i64 0, .int .i64 0, .int .i64 0, .int .i64 0, .int .u64 0, .int .u64 0, .int .i64 0, .int .u64 0] 40)) v2.heap.size (recC fun _ => 0).toArray 40 := Blk.new v2 _ _
          have hg0 := Below.size hS2.2
          obtain ⟨g, hg⟩ : ∃ g, v2.heap.size = g := ⟨_, rfl⟩
          obtain ⟨v6, hv⟩ : ∃ v, v2.alloc (.cells #[.int .i64 0, .int .i64 0, .int .i64 0, .int .i64 0, .int .i64 0, .int .i64 0, .int .i64 0, .int .u64 0, .int .u64 0, .int .i64 0, .int .u64 0] 40) = v := ⟨_, rfl⟩
          rw [hv] at hS6 G6 ⊢
          rw [hg] at G6 hg0 ⊢
          have L6 := L2.bel (show Bel v2 v6 by rw [← hv]; exact (Bel.refl _).alloc _)
          clear hg hv
          refine wpAnyH_ready (rs := [4]) (by kernel_rfl) (by simp) ?_
          refine AllReadyH.cons (o := { dst := some 13, op := .call { callee := .value (.func 33), args := #[.tmp 9, .tmp 12], argTypes := #[24, 59] }, type := 41, pos := "period.go:29", after := #[{ on := 0, ground := .data }, { on := 3, ground := .data }, { on := 2, ground := .chain }], guard := none }) rfl (fun K hK => ?_) AllReadyH.nil
          go_simp
          refine (CK.out _ _ L6).mono ?_
          rintro e v7 ⟨rfl, k7⟩
          go_wp2_with fail
          have hS7 := KEEP.out _ _ hS6 k7
          refine hK.out _ _ hS7 (fun _ => ?_)
          clear hK K
          try simp only [Act.put, List.setIfInBounds_toArray, List.set_cons_zero, List.set_cons_succ]
          have G7 := G6.bel k7
          clear k7
          refine wpAnyH_take (i := 5) (oi := { dst := some 8, op := .move (.tmp 13), type := 41, pos := "period.go:29", after := #[{ on := 4, ground := .data }], guard := none }) (v := .tuple #[.agg Y.toArray, .int .i64 q]) rfl (by kernel_rfl) (by kernel_rfl) (by kernel_rfl) (fun _ _ _ h => h) (Or.inl ⟨by rfl, by intro w hSw; clear hSw; go_simp⟩) hS7 ?_
          try simp only [Act.put, List.setIfInBounds_toArray, List.set_cons_zero, List.set_cons_succ]
          refine wpAnyH_take (i := 6) (oi := { dst := some 14, op := .extract (.tmp 8) 0, type := 40, pos := "period.go:29", after := #[{ on := 5, ground := .data }], guard := none }) (v := .agg Y.toArray) rfl (by kernel_rfl) (by kernel_rfl) (by kernel_rfl) (fun _ _ _ h => h) (Or.inl ⟨by rfl, by intro w hSw; clear hSw; go_simp⟩) hS7 ?_
          try simp only [Act.put, List.setIfInBounds_toArray, List.set_cons_zero, List.set_cons_succ]
          refine wpAnyH_take (i := 7) (oi := { dst := some 15, op := .extract (.tmp 8) 1, type := 25, pos := "period.go:29", after := #[{ on := 5, ground := .data }, { on := 9, ground := .gcOnly .lateStores }], guard := none }) (v := .int .i64 q) rfl (by kernel_rfl) (by kernel_rfl) (by kernel_rfl) (fun _ _ _ h => h) (Or.inl ⟨by rfl, by intro w hSw; clear hSw; go_simp⟩) hS7 ?_
          try simp only [Act.put, List.setIfInBounds_toArray, List.set_cons_zero, List.set_cons_succ]
          refine wpAnyH_ready (rs := [9]) (by kernel_rfl) (by simp) ?_
          refine AllReadyH.cons (o := { dst := none, op := .store 40 (.tmp 6) (.tmp 14), type := 0, pos := "period.go:29", after := #[{ on := 8, ground := .data }, { on := 6, ground := .data }, { on := 4, ground := .chain }, { on := 0, ground := .phase }, { on := 1, ground := .phase }, { on := 2, ground := .phase }, { on := 3, ground := .phase }, { on := 4, ground := .phase }, { on := 5, ground := .phase }, { on := 6, ground := .phase }, { on := 7, ground := .textOnly .lateStores }, { on := 8, ground := .phase }], guard := none }) rfl (fun K hK => ?_) AllReadyH.nil
          rw [if_pos (by rfl)]
          refine wp_store_mid 40 (.tmp 6) (.tmp 14) rfl g 0 Y.toArray rfl rfl (put11 _ Y YL.out rfl G7).1 (by rw [List.size_toArray, YL.out]; exact info_chd) YO.out ?_
          refine hK.out _ _ (put_S hS7.1 hS7.2 hg0 YL.out G7) (fun hS8 => ?_)
          have E8 := put_E hS7.1 hS7.2 hg0 YL.out G7
          clear hK K
          try simp only [Act.put]
          refine wpAnyH_take (i := 10) (oi := { dst := some 7, op := .assign (.tmp 15), type := 25, pos := "period.go:29", after := #[{ on := 7, ground := .data }, { on := 9, ground := .chain }, { on := 0, ground := .phase }, { on := 1, ground := .phase }, { on := 2, ground := .phase }, { on := 3, ground := .phase }, { on := 4, ground := .phase }, { on := 5, ground := .phase }, { on := 6, ground := .phase }, { on := 7, ground := .phase }, { on := 8, ground := .phase }, { on := 9, ground := .phase }], guard := none }) (v := .int .i64 q) rfl (by kernel_rfl) (by kernel_rfl) (by kernel_rfl) (fun _ _ _ h => h) (Or.inl ⟨by rfl, by intro w hSw; clear hSw; go_simp⟩) hS8 ?_
          try simp only [Act.put, List.setIfInBounds_toArray, List.set_cons_zero, List.set_cons_succ]
          refine wpAnyH_done (by kernel_rfl) ?_ _
          go_wp2_with fail
          go_meet
          exact ⟨g, rfl, rfl, E8⟩
      · go_simp
        have hS9 := KEEP.out _ _ hS0 ((Bel.refl w6).alloc (.cells #[.int .i64 0, .int .i64 0, .int .i64 0, .int .i64 0, .int .i64 0, .int .i64 0, .int .i64 0, .int .u64 0, .int .u64 0, .int .i64 0, .int .u64 0] 40))
        refine hK.out _ _ hS9 (fun _ => ?_)
        clear hK K
        try simp only [Act.put, List.setIfInBounds_toArray, List.set_cons_zero, List.set_cons_succ]
        have G9 : Blk (w6.alloc (.cells #[.int .i64 0, .int .i64 0, .int .i64 0, .int .i64 0, .int .i64 0, .int .i64 0, .int .i64 0, .int .u64 0, .int .u64 0, .int .i64 0, .int .u64 0] 40)) w6.heap.size (recC fun _ => 0).toArray 40 := Blk.new w6 _ _
        have hg0 := Below.size hS0.2
        obtain ⟨g, hg⟩ : ∃ g, w6.heap.size = g := ⟨_, rfl⟩
        obtain ⟨v9, hv⟩ : ∃ v, w6.alloc (.cells #[.int .i64 0, .int .i64 0, .int .i64 0, .int .i64 0, .int .i64 0, .int .i64 0, .int .i64 0, .int .u64 0, .int .u64 0, .int .i64 0, .int .u64 0] 40) = v := ⟨_, rfl⟩
        rw [hv] at hS9 G9 ⊢
        rw [hg] at G9 hg0 ⊢
        clear hg hv
        refine wpAnyH_ready (rs := [3]) (by kernel_rfl) (by simp) ?_
        refine AllReadyH.cons (o := { dst := some 12, op := .buildSlice 59 1 #[(0, .tmp 11)], type := 59, pos := "period.go:29", after := #[{ on := 2, ground := .data }], guard := none }) rfl (fun K hK => ?_) AllReadyH.nil
        go_simp
        have hS10 := KEEP.out _ _ hS9 ((Bel.refl v9).alloc (.cells #[.int .i64 c0] 25))
        refine hK.out _ _ hS10 (fun _ => ?_)
        clear hK K
        try simp only [Act.put, List.setIfInBounds_toArray, List.set_cons_zero, List.set_cons_succ]
        have L10 := lit1 v9 c0
        obtain ⟨b, hb⟩ : ∃ b, v9.heap.size = b := ⟨_, rfl⟩
        obtain ⟨v10, hv⟩ : ∃ v, v9.alloc (.cells #[.int .i64 c0] 25) = v := ⟨_, rfl⟩
        rw [hv] at hS10 L10 ⊢
        rw [hb] at L10 ⊢
        have G10 := G9.bel (show Bel v9 v10 by rw [← hv]; exact (Bel.refl _).alloc _)
        clear hb hv
        refine wpAnyH_ready (rs := [4]) (by kernel_rfl) (by simp) ?_
        refine AllReadyH.cons (o := { dst := some 13, op := .call { callee := .value (.func 33), args := #[.tmp 9, .tmp 12], argTypes := #[24, 59] }, type := 41, pos := "period.go:29", after := #[{ on := 0, ground := .data }, { on := 3, ground := .data }, { on := 2, ground := .chain }], guard := none }) rfl (fun K hK => ?_) AllReadyH.nil
        go_simp
        refine (CK.out _ _ L10).mono ?_
        rintro e v11 ⟨rfl, k11⟩
        go_wp2_with fail
        have hS11 := KEEP.out _ _ hS10 k11
        refine hK.out _ _ hS11 (fun _ => ?_)
        clear hK K
        try simp only [Act.put, List.setIfInBounds_toArray, List.set_cons_zero, List.set_cons_succ]
        have G11 := G10.bel k11
        clear k11
        refine wpAnyH_take (i := 5) (oi := { dst := some 8, op := .move (.tmp 13), type := 41, pos := "period.go:29", after := #[{ on := 4, ground := .data }], guard := none }) (v := .tuple #[.agg Y.toArray, .int .i64 q]) rfl (by kernel_rfl) (by kernel_rfl) (by kernel_rfl) (fun _ _ _ h => h) (Or.inl ⟨by rfl, by intro w hSw; clear hSw; go_simp⟩) hS11 ?_
        try simp only [Act.put, List.setIfInBounds_toArray, List.set_cons_zero, List.set_cons_succ]
        refine wpAnyH_take (i := 6) (oi := { dst := some 14, op := .extract (.tmp 8) 0, type := 40, pos := "period.go:29", after := #[{ on := 5, ground := .data }], guard := none }) (v := .agg Y.toArray) rfl (by kernel_rfl) (by kernel_rfl) (by kernel_rfl) (fun _ _ _ h => h) (Or.inl ⟨by rfl, by intro w hSw; clear hSw; go_simp⟩) hS11 ?_
        try simp only [Act.put, List.setIfInBounds_toArray, List.set_cons_zero, List.set_cons_succ]
        refine wpAnyH_take (i := 7) (oi := { dst := some 15, op := .extract (.tmp 8) 1, type := 25, pos := "period.go:29", after := #[{ on := 5, ground := .data }, { on := 9, ground := .gcOnly .lateStores }], guard := none }) (v := .int .i64 q) rfl (by kernel_rfl) (by kernel_rfl) (by kernel_rfl) (fun _ _ _ h => h) (Or.inl ⟨by rfl, by intro w hSw; clear hSw; go_simp⟩) hS11 ?_
        try simp only [Act.put, List.setIfInBounds_toArray, List.set_cons_zero, List.set_cons_succ]
        refine wpAnyH_ready (rs := [9]) (by kernel_rfl) (by simp) ?_
        refine AllReadyH.cons (o := { dst := none, op := .store 40 (.tmp 6) (.tmp 14), type := 0, pos := "period.go:29", after := #[{ on := 8, ground := .data }, { on := 6, ground := .data }, { on := 4, ground := .chain }, { on := 0, ground := .phase }, { on := 1, ground := .phase }, { on := 2, ground := .phase }, { on := 3, ground := .phase }, { on := 4, ground := .phase }, { on := 5, ground := .phase }, { on := 6, ground := .phase }, { on := 7, ground := .textOnly .lateStores }, { on := 8, ground := .phase }], guard := none }) rfl (fun K hK => ?_) AllReadyH.nil
        rw [if_pos (by rfl)]
        refine wp_store_mid 40 (.tmp 6) (.tmp 14) rfl g 0 Y.toArray rfl rfl (put11 _ Y YL.out rfl G11).1 (by rw [List.size_toArray, YL.out]; exact info_chd) YO.out ?_
        refine hK.out _ _ (put_S hS11.1 hS11.2 hg0 YL.out G11) (fun hS12 => ?_)
        have E12 := put_E hS11.1 hS11.2 hg0 YL.out G11
        clear hK K
        try simp only [Act.put]
        refine wpAnyH_take (i := 10) (oi := { dst := some 7, op := .assign (.tmp 15), type := 25, pos := "period.go:29", after := #[{ on := 7, ground := .data }, { on := 9, ground := .chain }, { on := 0, ground := .phase }, { on := 1, ground := .phase }, { on := 2, ground := .phase }, { on := 3, ground := .phase }, { on := 4, ground := .phase }, { on := 5, ground := .phase }, { on := 6, ground := .phase }, { on := 7, ground := .phase }, { on := 8, ground := .phase }, { on := 9, ground := .phase }], guard := none }) (v := .int .i64 q) rfl (by kernel_rfl) (by kernel_rfl) (by kernel_rfl) (fun _ _ _ h => h) (Or.inl ⟨by rfl, by intro w hSw; clear hSw; go_simp⟩) hS12 ?_
        try simp only [Act.put, List.setIfInBounds_toArray, List.set_cons_zero, List.set_cons_succ]
        refine wpAnyH_done (by kernel_rfl) ?_ _
        go_wp2_with fail
        go_meet
        exact ⟨g, rfl, rfl, E12⟩
    · go_simp
      have hS13 := KEEP.out _ _ hS0 ((Bel.refl w6).alloc (.cells #[.int .i64 0, .int .i64 0, .int .i64 0, .int .i64 0, .int .i64 0, .int .i64 0, .int .i64 0, .int .u64 0, .int .u64 0, .int .i64 0, .int .u64 0] 40))
      refine hK.out _ _ hS13 (fun _ => ?_)
      clear hK K
      try simp only [Act.put, List.setIfInBounds_toArray, List.set_cons_zero, List.set_cons_succ]
      have G13 : Blk (w6.alloc (.cells #[.int .i64 0, .int .i64 0, .int .i64 0, .int .i64 0, .int .i64 0, .int .i64 0, .int .i64 0, .int .u64 0, .int .u64 0, .int .i64 0, .int .u64 0] 40)) w6.heap.size (recC fun _ => 0).toArray 40 := Blk.new w6 _ _
      have hg0 := Below.size hS0.2
      obtain ⟨g, hg⟩ : ∃ g, w6.heap.size = g := ⟨_, rfl⟩
      obtain ⟨v13, hv⟩ : ∃ v, w6.alloc (.cells #[.int .i64 0, .int .i64 0, .int .i64 0, .int .i64 0, .int .i64 0, .int .i64 0, .int .i64 0, .int .u64 0, .int .u64 0, .int .i64 0, .int .u64 0] 40) = v := ⟨_, rfl⟩
      rw [hv] at hS13 G13 ⊢
      rw [hg] at G13 hg0 ⊢
      clear hg hv
      refine wpAnyH_ready (rs := [2]) (by kernel_rfl) (by simp) ?_
      refine AllReadyH.cons (o := { dst := some 11, op := .call { callee := .value (.func 34), args := #[.tmp 10], argTypes := #[43] }, type := 25, pos := "period.go:29", after := #[{ on := 1, ground := .data }], guard := none }) rfl (fun K hK => ?_) AllReadyH.nil
      go_simp
      refine (HC0.out _).mono ?_
      rintro e v14 ⟨rfl, rfl⟩
      go_wp2_with fail
      refine hK.out _ _ hS13 (fun _ => ?_)
      clear hK K
      try simp only [Act.put, List.setIfInBounds_toArray, List.set_cons_zero, List.set_cons_succ]
      refine wpAnyH_ready (rs := [3]) (by kernel_rfl) (by simp) ?_
      refine AllReadyH.cons (o := { dst := some 12, op := .buildSlice 59 1 #[(0, .tmp 11)], type := 59, pos := "period.go:29", after := #[{ on := 2, ground := .data }], guard := none }) rfl (fun K hK => ?_) AllReadyH.nil
      go_simp
      have hS15 := KEEP.out _ _ hS13 ((Bel.refl v13).alloc (.cells #[.int .i64 c0] 25))
      refine hK.out _ _ hS15 (fun _ => ?_)
      clear hK K
      try simp only [Act.put, List.setIfInBounds_toArray, List.set_cons_zero, List.set_cons_succ]
      have L15 := lit1 v13 c0
      obtain ⟨b, hb⟩ : ∃ b, v13.heap.size = b := ⟨_, rfl⟩
      obtain ⟨v15, hv⟩ : ∃ v, v13.alloc (.cells #[.int .i64 c0] 25) = v := ⟨_, rfl⟩
      rw [hv] at hS15 L15 ⊢
      rw [hb] at L15 ⊢
      have G15 := G13.bel (show Bel v13 v15 by rw [← hv]; exact (Bel.refl _).alloc _)
      clear hb hv
      refine wpAnyH_ready (rs := [4]) (by kernel_rfl) (by simp) ?_
      refine AllReadyH.cons (o := { dst := some 13, op := .call { callee := .value (.func 33), args := #[.tmp 9, .tmp 12], argTypes := #[24, 59] }, type := 41, pos := "period.go:29", after := #[{ on := 0, ground := .data }, { on := 3, ground := .data }, { on := 2, ground := .chain }], guard := none }) rfl (fun K hK => ?_) AllReadyH.nil
      go_simp
      refine (CK.out _ _ L15).mono ?_
      rintro e v16 ⟨rfl, k16⟩
      go_wp2_with fail
      have hS16 := KEEP.out _ _ hS15 k16
      refine hK.out _ _ hS16 (fun _ => ?_)
      clear hK K
      try simp only [Act.put, List.setIfInBounds_toArray, List.set_cons_zero, List.set_cons_succ]
      have G16 := G15.bel k16
      clear k16
      refine wpAnyH_take (i := 5) (oi := { dst := some 8, op := .move (.tmp 13), type := 41, pos := "period.go:29", after := #[{ on := 4, ground := .data }], guard := none }) (v := .tuple #[.agg Y.toArray, .int .i64 q]) rfl (by kernel_rfl) (by kernel_rfl) (by kernel_rfl) (fun _ _ _ h => h) (Or.inl ⟨by rfl, by intro w hSw; clear hSw; go_simp⟩) hS16 ?_
      try simp only [Act.put, List.setIfInBounds_toArray, List.set_cons_zero, List.set_cons_succ]
      refine wpAnyH_take (i := 6) (oi := { dst := some 14, op := .extract (.tmp 8) 0, type := 40, pos := "period.go:29", after := #[{ on := 5, ground := .data }], guard := none }) (v := .agg Y.toArray) rfl (by kernel_rfl) (by kernel_rfl) (by kernel_rfl) (fun _ _ _ h => h) (Or.inl ⟨by rfl, by intro w hSw; clear hSw; go_simp⟩) hS16 ?_
      try simp only [Act.put, List.setIfInBounds_toArray, List.set_cons_zero, List.set_cons_succ]
      refine wpAnyH_take (i := 7) (oi := { dst := some 15, op := .extract (.tmp 8) 1, type := 25, pos := "period.go:29", after := #[{ on := 5, ground := .data }, { on := 9, ground := .gcOnly .lateStores }], guard := none }) (v := .int .i64 q) rfl (by kernel_rfl) (by kernel_rfl) (by kernel_rfl) (fun _ _ _ h => h) (Or.inl ⟨by rfl, by intro w hSw; clear hSw; go_simp⟩) hS16 ?_
      try simp only [Act.put, List.setIfInBounds_toArray, List.set_cons_zero, List.set_cons_succ]
      refine wpAnyH_ready (rs := [9]) (by kernel_rfl) (by simp) ?_
      refine AllReadyH.cons (o := { dst := none, op := .store 40 (.tmp 6) (.tmp 14), type := 0, pos := "period.go:29", after := #[{ on := 8, ground := .data }, { on := 6, ground := .data }, { on := 4, ground := .chain }, { on := 0, ground := .phase }, { on := 1, ground := .phase }, { on := 2, ground := .phase }, { on := 3, ground := .phase }, { on := 4, ground := .phase }, { on := 5, ground := .phase }, { on := 6, ground := .phase }, { on := 7, ground := .textOnly .lateStores }, { on := 8, ground := .phase }], guard := none }) rfl (fun K hK => ?_) AllReadyH.nil
      rw [if_pos (by rfl)]
      refine wp_store_mid 40 (.tmp 6) (.tmp 14) rfl g 0 Y.toArray rfl rfl (put11 _ Y YL.out rfl G16).1 (by rw [List.size_toArray, YL.out]; exact info_chd) YO.out ?_
      refine hK.out _ _ (put_S hS16.1 hS16.2 hg0 YL.out G16) (fun hS17 => ?_)
      have E17 := put_E hS16.1 hS16.2 hg0 YL.out G16
      clear hK K
      try simp only [Act.put]
      refine wpAnyH_take (i := 10) (oi := { dst := some 7, op := .assign (.tmp 15), type := 25, pos := "period.go:29", after := #[{ on := 7, ground := .data }, { on := 9, ground := .chain }, { on := 0, ground := .phase }, { on := 1, ground := .phase }, { on := 2, ground := .phase }, { on := 3, ground := .phase }, { on := 4, ground := .phase }, { on := 5, ground := .phase }, { on := 6, ground := .phase }, { on := 7, ground := .phase }, { on := 8, ground := .phase }, { on := 9, ground := .phase }], guard := none }) (v := .int .i64 q) rfl (by kernel_rfl) (by kernel_rfl) (by kernel_rfl) (fun _ _ _ h => h) (Or.inl ⟨by rfl, by intro w hSw; clear hSw; go_simp⟩) hS17 ?_
      try simp only [Act.put, List.setIfInBounds_toArray, List.set_cons_zero, List.set_cons_succ]
      refine wpAnyH_done (by kernel_rfl) ?_ _
      go_wp2_with fail
      go_meet
      exact ⟨g, rfl, rfl, E17⟩
  case rest =>
    obtain ⟨g, rfl, rfl, hS⟩ := hcut
    clear KEEP CK HC0
    have uC := Try.underlying40
    have iC := Lib.hid (show (Try.prog.info? 40).map (·.size) = some Y.length by rw [YL.out]; exact info_chd)
    by_cases h0 : q = 0
    · subst h0
      obtain ⟨hc, h1, h2⟩ := e1_zero HQ.out
      have HFt := Lib.hid (fit_of HX.out hc)
      have hY := HY.out
      rw [yz_zero] at hY
      have RG := Lib.hid (show wc.rangeAt g 0 (recC x) by rw [hY]; exact hS.out.2.1)
      have HV := Lib.hid (show lowN x h = _ from if_pos HQ.out)
      clear hc hY
      have EP := Lib.hid (fun V => epoch x h V h1 h2 HFt.out.len.1 HFt.out.len.2)
      rw [show recC x = Y by rw [← HY.out, yz_zero]] at EP
      have RY := Lib.hid hS.out.2.1
      have q1 : 0 ≤ (h - 1) / x 2 := Int.ediv_nonneg (by omega) (by have := HFt.out.len; omega)
      have q2 : (h - 1) / x 2 ≤ h - 1 := Int.ediv_le_self _ (by omega)
      obtain ⟨n, hn⟩ : ∃ n, (h - 1) / x 2 = n := ⟨_, rfl⟩
      rw [hn] at EP q1 q2
      have HN := Lib.hid hn
      clear hn
      have c3 := rec_cell RG.out 3 (by omega)
      rw [show kd 3 = .i64 from rfl] at c3
      obtain ⟨m, hm⟩ : ∃ m, x 3 = m := ⟨_, rfl⟩
      have b3 := HFt.out.win
      rw [hm] at c3 b3
      have HR : lowN x h = max (n - m + 1) 0 := by rw [HV.out, HN.out, hm]
      have KEEP2 := Lib.hid (show ∀ V V' : World, (V.rangeAt g 0 Y ∧ V.cell? ⟨g, 3, none⟩ = some (.int .i64 m) ∧ Bel W0 V) → Bel V V' → (V'.rangeAt g 0 Y ∧ V'.cell? ⟨g, 3, none⟩ = some (.int .i64 m) ∧ Bel W0 V') from fun V V' h hb => ⟨rng_bel h.1 hb, cell_bel h.2.1 hb, h.2.2.trans hb⟩)
      clear hm HV
      have x1 : IntKind.i64.wrap (n - m) = n - m := wrapI _ (by omega) (by omega)
      have x2 : IntKind.i64.wrap (n - m + 1) = n - m + 1 := wrapI _ (by omega) (by omega)
      by_cases hb : n - m + 1 ≤ 0
      · have hb2 : ¬ 0 < n - m + 1 := by omega
        rw [show max (n - m + 1) 0 = 0 by omega] at HR
        go_upto_region 4 with fail
        refine wp_region_held_drew (S := fun V => V.rangeAt g 0 Y ∧ V.cell? ⟨g, 3, none⟩ = some (.int .i64 m) ∧ Bel W0 V) (by kernel_rfl) ⟨rng_bel RY.out (Bel.refl _).drew, cell_bel c3 (Bel.refl _).drew, hS.out.2.2.drew⟩ (fun hS0 => ?_)
        obtain ⟨w6, hw6⟩ : ∃ w6, wc.drew = w6 := ⟨_, rfl⟩
        rw [hw6] at hS0 ⊢
        clear hw6 c3
        refine wpAnyH_take (i := 0) (oi := { dst := some 19, op := .move (.tmp 1), type := 3, pos := "period.go:33", after := #[], guard := none }) (v := .int .i64 h) rfl (by kernel_rfl) (by kernel_rfl) (by kernel_rfl) (fun _ _ _ h => h) (Or.inl ⟨by rfl, by intro w hSw; clear hSw; go_simp⟩) hS0 ?_
        try simp only [Act.put, List.setIfInBounds_toArray, List.set_cons_zero, List.set_cons_succ]
        refine wpAnyH_take (i := 1) (oi := { dst := some 20, op := .load 40 (.tmp 6), type := 40, pos := "period.go:33", after := #[], guard := none }) (v := .agg Y.toArray) rfl (by kernel_rfl) (by kernel_rfl) (by kernel_rfl) (fun _ _ _ h => h) (yieldsIf_load_mid (by rfl) _ _ rfl _ _ rfl _ _ (fun w h => h.1) uC rfl iC.out) hS0 ?_
        try simp only [Act.put, List.setIfInBounds_toArray, List.set_cons_zero, List.set_cons_succ]
        refine wpAnyH_take (i := 3) (oi := { dst := some 22, op := .fieldAddr 40 (.tmp 6) 0, type := 0, pos := "period.go:33", after := #[], guard := none }) (v := .pointer (some ⟨g, 0, none⟩)) rfl (by kernel_rfl) (by kernel_rfl) (by kernel_rfl) (fun _ _ _ h => h) (Or.inl ⟨by rfl, by intro w hSw; clear hSw; go_simp⟩) hS0 ?_
        try simp only [Act.put, List.setIfInBounds_toArray, List.set_cons_zero, List.set_cons_succ]
        refine wpAnyH_take (i := 4) (oi := { dst := some 23, op := .fieldAddr 24 (.tmp 22) 3, type := 0, pos := "period.go:33", after := #[{ on := 3, ground := .data }], guard := none }) (v := .pointer (some ⟨g, 3, none⟩)) rfl (by kernel_rfl) (by kernel_rfl) (by kernel_rfl) (fun _ _ _ h => h) (Or.inl ⟨by rfl, by intro w hSw; clear hSw; go_simp⟩) hS0 ?_
        try simp only [Act.put, List.setIfInBounds_toArray, List.set_cons_zero, List.set_cons_succ]
        refine wpAnyH_take (i := 5) (oi := { dst := some 24, op := .load 3 (.tmp 23), type := 3, pos := "period.go:33", after := #[{ on := 4, ground := .data }], guard := none }) (v := .int .i64 m) rfl (by kernel_rfl) (by kernel_rfl) (by kernel_rfl) (fun _ _ _ h => h) (Or.inl ⟨by rfl, by intro w h; have hcell := (h.2.1); clear h; go_simp⟩) hS0 ?_
        try simp only [Act.put, List.setIfInBounds_toArray, List.set_cons_zero, List.set_cons_succ]
        refine wpAnyH_ready (rs := [2]) (by kernel_rfl) (by simp) ?_
        refine AllReadyH.cons (o := { dst := some 21, op := .call { callee := .value (.func 35), args := #[.tmp 19, .tmp 20], argTypes := #[43, 40] }, type := 3, pos := "period.go:33", after := #[{ on := 0, ground := .data }, { on := 1, ground := .data }], guard := none }) rfl (fun K hK => ?_) AllReadyH.nil
        go_simp
        refine (EP.out _).mono ?_
        rintro e v1 ⟨rfl, k1⟩
        go_wp2_with fail
        refine hK.out _ _ (KEEP2.out _ _ hS0 k1) (fun hS1 => ?_)
        clear hK K
        try simp only [Act.put, List.setIfInBounds_toArray, List.set_cons_zero, List.set_cons_succ]
        refine wpAnyH_take (i := 6) (oi := { dst := some 25, op := .binOp .sub 3 (.tmp 21) (.tmp 24) 3, type := 3, pos := "period.go:33", after := #[{ on := 2, ground := .data }, { on := 5, ground := .data }], guard := none }) (v := .int .i64 (n - m)) rfl (by kernel_rfl) (by kernel_rfl) (by kernel_rfl) (fun _ _ _ h => h) (Or.inl ⟨by rfl, by intro w hSw; clear hSw; go_simp⟩) hS1 ?_
        try simp only [Act.put, List.setIfInBounds_toArray, List.set_cons_zero, List.set_cons_succ]
        refine wpAnyH_take (i := 7) (oi := { dst := some 26, op := .binOp .add 3 (.tmp 25) (.const (Value.int IntKind.i64 1)) 3, type := 3, pos := "period.go:33", after := #[{ on := 6, ground := .data }], guard := none }) (v := .int .i64 (n - m + 1)) rfl (by kernel_rfl) (by kernel_rfl) (by kernel_rfl) (fun _ _ _ h => h) (Or.inl ⟨by rfl, by intro w hSw; clear hSw; go_simp⟩) hS1 ?_
        try simp only [Act.put, List.setIfInBounds_toArray, List.set_cons_zero, List.set_cons_succ]
        refine wpAnyH_take (i := 8) (oi := { dst := some 27, op := .call { callee := .builtin .max, args := #[.tmp 26, .const (Value.int IntKind.i64 0)], argTypes := #[3, 3] }, type := 3, pos := "period.go:33", after := #[{ on := 7, ground := .data }], guard := none }) (v := .int .i64 (0)) rfl (by kernel_rfl) (by kernel_rfl) (by kernel_rfl) (fun _ _ _ h => h) (Or.inl ⟨by rfl, by intro w hSw; clear hSw; go_simp; omega⟩) hS1 ?_
        try simp only [Act.put, List.setIfInBounds_toArray, List.set_cons_zero, List.set_cons_succ]
        refine wpAnyH_take (i := 9) (oi := { dst := some 4, op := .assign (.tmp 27), type := 3, pos := "period.go:33", after := #[{ on := 8, ground := .data }, { on := 2, ground := .chain }, { on := 0, ground := .phase }, { on := 1, ground := .phase }, { on := 2, ground := .phase }, { on := 3, ground := .phase }, { on := 4, ground := .phase }, { on := 5, ground := .phase }, { on := 6, ground := .phase }, { on := 7, ground := .phase }, { on := 8, ground := .phase }], guard := none }) (v := .int .i64 (0)) rfl (by kernel_rfl) (by kernel_rfl) (by kernel_rfl) (fun _ _ _ h => h) (Or.inl ⟨by rfl, by intro w hSw; clear hSw; go_simp⟩) hS1 ?_
        try simp only [Act.put, List.setIfInBounds_toArray, List.set_cons_zero, List.set_cons_succ]
        refine wpAnyH_take (i := 10) (oi := { dst := some 5, op := .assign (.const (Value.int IntKind.i64 0)), type := 25, pos := "period.go:33", after := #[{ on := 9, ground := .chain }, { on := 0, ground := .phase }, { on := 1, ground := .phase }, { on := 2, ground := .phase }, { on := 3, ground := .phase }, { on := 4, ground := .phase }, { on := 5, ground := .phase }, { on := 6, ground := .phase }, { on := 7, ground := .phase }, { on := 8, ground := .phase }, { on := 9, ground := .phase }], guard := none }) (v := .int .i64 0) rfl (by kernel_rfl) (by kernel_rfl) (by kernel_rfl) (fun _ _ _ h => h) (Or.inl ⟨by rfl, by intro w hSw; clear hSw; go_simp⟩) hS1 ?_
        try simp only [Act.put, List.setIfInBounds_toArray, List.set_cons_zero, List.set_cons_succ]
        refine wpAnyH_done (by kernel_rfl) ?_ _
        go_wp2_with fail
        go_ret2
        exact ⟨by rw [HR, HQ.out]; rfl, B0.out.trans hS1.2.2⟩
      · have hb2 : 0 < n - m + 1 := by omega
        rw [show max (n - m + 1) 0 = n - m + 1 by omega] at HR
        go_upto_region 4 with fail
        refine wp_region_held_drew (S := fun V => V.rangeAt g 0 Y ∧ V.cell? ⟨g, 3, none⟩ = some (.int .i64 m) ∧ Bel W0 V) (by kernel_rfl) ⟨rng_bel RY.out (Bel.refl _).drew, cell_bel c3 (Bel.refl _).drew, hS.out.2.2.drew⟩ (fun hS0 => ?_)
        obtain ⟨w6, hw6⟩ : ∃ w6, wc.drew = w6 := ⟨_, rfl⟩
        rw [hw6] at hS0 ⊢
        clear hw6 c3
        refine wpAnyH_take (i := 0) (oi := { dst := some 19, op := .move (.tmp 1), type := 3, pos := "period.go:33", after := #[], guard := none }) (v := .int .i64 h) rfl (by kernel_rfl) (by kernel_rfl) (by kernel_rfl) (fun _ _ _ h => h) (Or.inl ⟨by rfl, by intro w hSw; clear hSw; go_simp⟩) hS0 ?_
        try simp only [Act.put, List.setIfInBounds_toArray, List.set_cons_zero, List.set_cons_succ]
        refine wpAnyH_take (i := 1) (oi := { dst := some 20, op := .load 40 (.tmp 6), type := 40, pos := "period.go:33", after := #[], guard := none }) (v := .agg Y.toArray) rfl (by kernel_rfl) (by kernel_rfl) (by kernel_rfl) (fun _ _ _ h => h) (yieldsIf_load_mid (by rfl) _ _ rfl _ _ rfl _ _ (fun w h => h.1) uC rfl iC.out) hS0 ?_
        try simp only [Act.put, List.setIfInBounds_toArray, List.set_cons_zero, List.set_cons_succ]
        refine wpAnyH_take (i := 3) (oi := { dst := some 22, op := .fieldAddr 40 (.tmp 6) 0, type := 0, pos := "period.go:33", after := #[], guard := none }) (v := .pointer (some ⟨g, 0, none⟩)) rfl (by kernel_rfl) (by kernel_rfl) (by kernel_rfl) (fun _ _ _ h => h) (Or.inl ⟨by rfl, by intro w hSw; clear hSw; go_simp⟩) hS0 ?_
        try simp only [Act.put, List.setIfInBounds_toArray, List.set_cons_zero, List.set_cons_succ]
        refine wpAnyH_take (i := 4) (oi := { dst := some 23, op := .fieldAddr 24 (.tmp 22) 3, type := 0, pos := "period.go:33", after := #[{ on := 3, ground := .data }], guard := none }) (v := .pointer (some ⟨g, 3, none⟩)) rfl (by kernel_rfl) (by kernel_rfl) (by kernel_rfl) (fun _ _ _ h => h) (Or.inl ⟨by rfl, by intro w hSw; clear hSw; go_simp⟩) hS0 ?_
        try simp only [Act.put, List.setIfInBounds_toArray, List.set_cons_zero, List.set_cons_succ]
        refine wpAnyH_take (i := 5) (oi := { dst := some 24, op := .load 3 (.tmp 23), type := 3, pos := "period.go:33", after := #[{ on := 4, ground := .data }], guard := none }) (v := .int .i64 m) rfl (by kernel_rfl) (by kernel_rfl) (by kernel_rfl) (fun _ _ _ h => h) (Or.inl ⟨by rfl, by intro w h; have hcell := (h.2.1); clear h; go_simp⟩) hS0 ?_
        try simp only [Act.put, List.setIfInBounds_toArray, List.set_cons_zero, List.set_cons_succ]
        refine wpAnyH_ready (rs := [2]) (by kernel_rfl) (by simp) ?_
        refine AllReadyH.cons (o := { dst := some 21, op := .call { callee := .value (.func 35), args := #[.tmp 19, .tmp 20], argTypes := #[43, 40] }, type := 3, pos := "period.go:33", after := #[{ on := 0, ground := .data }, { on := 1, ground := .data }], guard := none }) rfl (fun K hK => ?_) AllReadyH.nil
        go_simp
        refine (EP.out _).mono ?_
        rintro e v1 ⟨rfl, k1⟩
        go_wp2_with fail
        refine hK.out _ _ (KEEP2.out _ _ hS0 k1) (fun hS1 => ?_)
        clear hK K
        try simp only [Act.put, List.setIfInBounds_toArray, List.set_cons_zero, List.set_cons_succ]
        refine wpAnyH_take (i := 6) (oi := { dst := some 25, op := .binOp .sub 3 (.tmp 21) (.tmp 24) 3, type := 3, pos := "period.go:33", after := #[{ on := 2, ground := .data }, { on := 5, ground := .data }], guard := none }) (v := .int .i64 (n - m)) rfl (by kernel_rfl) (by kernel_rfl) (by kernel_rfl) (fun _ _ _ h => h) (Or.inl ⟨by rfl, by intro w hSw; clear hSw; go_simp⟩) hS1 ?_
        try simp only [Act.put, List.setIfInBounds_toArray, List.set_cons_zero, List.set_cons_succ]
        refine wpAnyH_take (i := 7) (oi := { dst := some 26, op := .binOp .add 3 (.tmp 25) (.const (Value.int IntKind.i64 1)) 3, type := 3, pos := "period.go:33", after := #[{ on := 6, ground := .data }], guard := none }) (v := .int .i64 (n - m + 1)) rfl (by kernel_rfl) (by kernel_rfl) (by kernel_rfl) (fun _ _ _ h => h) (Or.inl ⟨by rfl, by intro w hSw; clear hSw; go_simp⟩) hS1 ?_
        try simp only [Act.put, List.setIfInBounds_toArray, List.set_cons_zero, List.set_cons_succ]
        refine wpAnyH_take (i := 8) (oi := { dst := some 27, op := .call { callee := .builtin .max, args := #[.tmp 26, .const (Value.int IntKind.i64 0)], argTypes := #[3, 3] }, type := 3, pos := "period.go:33", after := #[{ on := 7, ground := .data }], guard := none }) (v := .int .i64 (n - m + 1)) rfl (by kernel_rfl) (by kernel_rfl) (by kernel_rfl) (fun _ _ _ h => h) (Or.inl ⟨by rfl, by intro w hSw; clear hSw; go_simp; omega⟩) hS1 ?_
        try simp only [Act.put, List.setIfInBounds_toArray, List.set_cons_zero, List.set_cons_succ]
        refine wpAnyH_take (i := 9) (oi := { dst := some 4, op := .assign (.tmp 27), type := 3, pos := "period.go:33", after := #[{ on := 8, ground := .data }, { on := 2, ground := .chain }, { on := 0, ground := .phase }, { on := 1, ground := .phase }, { on := 2, ground := .phase }, { on := 3, ground := .phase }, { on := 4, ground := .phase }, { on := 5, ground := .phase }, { on := 6, ground := .phase }, { on := 7, ground := .phase }, { on := 8, ground := .phase }], guard := none }) (v := .int .i64 (n - m + 1)) rfl (by kernel_rfl) (by kernel_rfl) (by kernel_rfl) (fun _ _ _ h => h) (Or.inl ⟨by rfl, by intro w hSw; clear hSw; go_simp⟩) hS1 ?_
        try simp only [Act.put, List.setIfInBounds_toArray, List.set_cons_zero, List.set_cons_succ]
        refine wpAnyH_take (i := 10) (oi := { dst := some 5, op := .assign (.const (Value.int IntKind.i64 0)), type := 25, pos := "period.go:33", after := #[{ on := 9, ground := .chain }, { on := 0, ground := .phase }, { on := 1, ground := .phase }, { on := 2, ground := .phase }, { on := 3, ground := .phase }, { on := 4, ground := .phase }, { on := 5, ground := .phase }, { on := 6, ground := .phase }, { on := 7, ground := .phase }, { on := 8, ground := .phase }, { on := 9, ground := .phase }], guard := none }) (v := .int .i64 0) rfl (by kernel_rfl) (by kernel_rfl) (by kernel_rfl) (fun _ _ _ h => h) (Or.inl ⟨by rfl, by intro w hSw; clear hSw; go_simp⟩) hS1 ?_
        try simp only [Act.put, List.setIfInBounds_toArray, List.set_cons_zero, List.set_cons_succ]
        refine wpAnyH_done (by kernel_rfl) ?_ _
        go_wp2_with fail
        go_ret2
        exact ⟨by rw [HR, HQ.out]; rfl, B0.out.trans hS1.2.2⟩
    · have HV := Lib.hid (show lowN x h = 0 from if_neg (by rw [HQ.out]; exact h0))
      go_wp2_with fail
      go_ret2
      exact ⟨by rw [HV.out, HQ.out]; rfl, B0.out.trans hS.out.2.2⟩
end Pd
end Go.Proofs.Ytlhahjpjlahdiaa
end
