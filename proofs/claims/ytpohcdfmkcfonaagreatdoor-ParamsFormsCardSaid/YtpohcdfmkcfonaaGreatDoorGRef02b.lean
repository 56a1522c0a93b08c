/-
  What distraintref02.Get answers in this program, of any bytes at any place: the same as codec.Get.
  Conditions: the slice reads as bytes, of at most 10^9 of them.
-/
import Derived.Test.YtpohcdfmkcfonaaGreatDoorGRef02
namespace Go.Proofs.YtpohcdfmkcfonaaGreatDoor
open Go.RowKit Go.Shelf
set_option linter.unusedVariables false
namespace Cd

theorem rget_range (A : Option Addr) (n c : Nat) (at_ : Int) (w : World) (h : at_ < 0 ∨ (n : Int) < at_) :
    Calls Tryz.prog 84 #[.slice A n c, .int .i64 at_] w fun e w' => e = .returned (got 0 0 3 0) ∧ Bel w w' := by
  by_cases h0 : at_ < 0
  · go_enter Tryz.func84, Tryz.ntmps84
    go_wp2
    refine bodyPost_ret (v := got 0 0 3 0) (by simp [results, Tryz.results84, go_sem]) rfl ⟨rfl, ?_⟩
    exact (Bel.refl _).alloc _
  · have h1 : (n : Int) < at_ := by omega
    clear h
    go_enter Tryz.func84, Tryz.ntmps84
    go_wp2
    refine bodyPost_ret (v := got 0 0 3 0) (by simp [results, Tryz.results84, go_sem]) rfl ⟨rfl, ?_⟩
    exact (Bel.refl _).alloc _

set_option maxHeartbeats 1000000 in
theorem rget_ok (A : Option Addr) (n c k j : Nat) (zs : List Int) (w : World) (hi : Ints .u8 w A n zs) (hn : n ≤ 1000000000) (hb : Bytes zs) (hj : j < 10) (hkj : k + j < n)
    (hl : ∀ i, i < j → 128 ≤ zs.getD (k + i) 0) (hz : zs.getD (k + j) 0 < 128) (h0 : 0 < j → 0 < zs.getD (k + j) 0) (h9 : j = 9 → zs.getD (k + j) 0 = 1) :
    Calls Tryz.prog 84 #[.slice A n c, .int .i64 k] w fun e w' => e = .returned (got (val zs k (j + 1)) ((k : Int) + j + 1) 0 0) ∧ Bel w w' := by
  have hk' : k ≤ 1000000000 := by omega
  have HI := Lib.hid (hi.bel ((Bel.refl w).alloc (.cells #[.int .i64 0, .int .i64 0] 34)))
  have HB := Lib.hid hb
  have HL := Lib.hid hl
  have H0 := Lib.hid h0
  have H9 := Lib.hid h9
  have HZ := Lib.hid hz
  have hkn : (k : Int) ≤ (n : Int) := by omega
  clear hi hb hl hz h0 h9
  go_enter Tryz.func84, Tryz.ntmps84
  go_wp2_with fail
  go_loop [4, 5, 7, 8] (fun p q x i => ∃ t : Nat, t ≤ j ∧ i = .int .i64 t ∧ x = .int .u64 (val zs k t) ∧ p = .int .u64 0 ∧ q = .int .i64 0) (fun _ _ _ i => j + 1 - (intOf i).toNat)
  case atStart => exact ⟨0, Nat.zero_le _, rfl, rfl, rfl, rfl⟩
  case round =>
    obtain ⟨t, ht, rfl, rfl, rfl, rfl⟩ := hrel
    obtain ⟨b, o, rfl, hbw, hcell⟩ := HI.out.cell (i := k + t) (by omega)
    have hv := val_lt zs k t
    obtain ⟨z0, z1⟩ := HB.out (k + t)
    have HV := Lib.hid (show val zs k (t + 1) = val zs k t + zs.getD (k + t) 0 % 128 * 128 ^ t from rfl)
    have hz8 : t ≤ 8 ∨ (t = 9 ∧ zs.getD (k + t) 0 ≤ 1) := by
      rcases Nat.lt_or_ge t 9 with h | h
      · exact .inl (by omega)
      · obtain rfl : t = 9 := by omega
        obtain rfl : j = 9 := by omega
        have := H9.out rfl
        exact .inr ⟨rfl, by omega⟩
    have hz128 : t < j → 128 ≤ zs.getD (k + t) 0 := HL.out t
    have hzj : t = j → zs.getD (k + t) 0 < 128 ∧ (0 < t → 0 < zs.getD (k + t) 0) := by
      rintro rfl; exact ⟨HZ.out, H0.out⟩
    generalize zs.getD (k + t) 0 = z at *
    obtain ⟨v0, v1⟩ := hv
    generalize val zs k t = v at *
    have E2 := Lib.hid (or_step' t v0 v1 z0 hz8)
    have d1 : (t : Int) < 10 := by omega
    have d2 : (k : Int) + (t : Int) < (n : Int) := by omega
    have e0 : z % 256 = z := by omega
    by_cases hlt : t < j
    · have hz1 := hz128 hlt
      have f1 : ((t : Int) == 9) = false := beq_eq_false_iff_ne.2 (by omega)
      have f2 : (z == 0) = false := beq_eq_false_iff_ne.2 (by omega)
      clear hz8 v1 hz128 hzj e0
      go_wp2
      all_goals
        go_round
        case rel => first | exact ⟨t + 1, by omega, by go_num, by rw [E2.out, HV.out], rfl, rfl⟩ | exact ⟨_, _, _, _, ⟨t + 1, by omega, by go_num, by rw [E2.out, HV.out], rfl, rfl⟩, rfl, rfl, rfl, rfl⟩
        case measure => simp [intOf]; omega
    · obtain rfl : t = j := by omega
      obtain ⟨hz1, hz2⟩ := hzj rfl
      have hcs : ((((t : Int) == 9) = false ∧ decide (0 < t) = false)) ∨ ((((t : Int) == 9) = true ∧ decide (1 < z) = false ∧ decide (0 < t) = true ∧ (z == 0) = false)) ∨ ((((t : Int) == 9) = false ∧ decide (0 < t) = true ∧ (z == 0) = false)) := by
        rcases Nat.eq_zero_or_pos t with h | h
        · exact .inl ⟨beq_eq_false_iff_ne.2 (by omega), decide_eq_false (by omega)⟩
        · have hz3 := hz2 h
          rcases hz8 with h8 | ⟨h8, h8'⟩
          · exact .inr (.inr ⟨beq_eq_false_iff_ne.2 (by omega), decide_eq_true h, beq_eq_false_iff_ne.2 (by omega)⟩)
          · exact .inr (.inl ⟨beq_iff_eq.2 (by omega), decide_eq_false (by omega), decide_eq_true h, beq_eq_false_iff_ne.2 (by omega)⟩)
      clear hz128 hzj e0 hz8 hz2 v1 hlt
      rcases hcs with ⟨f1, f2⟩ | ⟨f1, f2, f3, f4⟩ | ⟨f1, f2, f3⟩
      all_goals
        go_wp2
        refine bodyPost_ret (v := got (val zs k (t + 1)) ((k : Int) + t + 1) 0 0) (by simp [results, Tryz.results84, go_sem, E2.out, HV.out]; omega) rfl ⟨rfl, ?_⟩
        exact ((Bel.refl _).alloc _)

set_option maxHeartbeats 1000000 in
theorem rget_bad (A : Option Addr) (n c k j : Nat) (zs : List Int) (w : World) (hi : Ints .u8 w A n zs) (hn : n ≤ 1000000000) (hb : Bytes zs) (hj : j < 10) (hkj : k + j < n)
    (hl : ∀ i, i < j → 128 ≤ zs.getD (k + i) 0) (h0 : (0 < j ∧ zs.getD (k + j) 0 = 0) ∨ (j = 9 ∧ 1 < zs.getD (k + j) 0)) :
    Calls Tryz.prog 84 #[.slice A n c, .int .i64 k] w fun e w' => e = .returned (got 0 0 5 k) ∧ Bel w w' := by
  have hk' : k ≤ 1000000000 := by omega
  have HI := Lib.hid (hi.bel ((Bel.refl w).alloc (.cells #[.int .i64 0, .int .i64 0] 34)))
  have HB := Lib.hid hb
  have HL := Lib.hid hl
  have H0 := Lib.hid h0
  have hkn : (k : Int) ≤ (n : Int) := by omega
  clear hi hb hl h0
  go_enter Tryz.func84, Tryz.ntmps84
  go_wp2_with fail
  go_loop [4, 5, 7, 8] (fun p q x i => ∃ t : Nat, t ≤ j ∧ i = .int .i64 t ∧ x = .int .u64 (val zs k t) ∧ p = .int .u64 0 ∧ q = .int .i64 0) (fun _ _ _ i => j + 1 - (intOf i).toNat)
  case atStart => exact ⟨0, Nat.zero_le _, rfl, rfl, rfl, rfl⟩
  case round =>
    obtain ⟨t, ht, rfl, rfl, rfl, rfl⟩ := hrel
    obtain ⟨b, o, rfl, hbw, hcell⟩ := HI.out.cell (i := k + t) (by omega)
    have hv := val_lt zs k t
    obtain ⟨z0, z1⟩ := HB.out (k + t)
    have HV := Lib.hid (show val zs k (t + 1) = val zs k t + zs.getD (k + t) 0 % 128 * 128 ^ t from rfl)
    have hz128 : t < j → 128 ≤ zs.getD (k + t) 0 := HL.out t
    have hzj : t = j → (0 < t ∧ zs.getD (k + t) 0 = 0) ∨ (t = 9 ∧ 1 < zs.getD (k + t) 0) := by
      rintro rfl; exact H0.out
    generalize zs.getD (k + t) 0 = z at *
    obtain ⟨v0, v1⟩ := hv
    generalize val zs k t = v at *
    have d1 : (t : Int) < 10 := by omega
    have d2 : (k : Int) + (t : Int) < (n : Int) := by omega
    by_cases hlt : t < j
    · have hz1 := hz128 hlt
      have E2 := Lib.hid (or_step' t v0 v1 z0 (.inl (by omega)))
      have f1 : ((t : Int) == 9) = false := beq_eq_false_iff_ne.2 (by omega)
      have f2 : (z == 0) = false := beq_eq_false_iff_ne.2 (by omega)
      clear v1 hz128 hzj
      go_wp2
      all_goals
        go_round
        case rel => first | exact ⟨t + 1, by omega, by go_num, by rw [E2.out, HV.out], rfl, rfl⟩ | exact ⟨_, _, _, _, ⟨t + 1, by omega, by go_num, by rw [E2.out, HV.out], rfl, rfl⟩, rfl, rfl, rfl, rfl⟩
        case measure => simp [intOf]; omega
    · obtain rfl : t = j := by omega
      have hcs : ((((t : Int) == 9) = true ∧ decide (1 < z) = true)) ∨ ((((t : Int) == 9) = true ∧ decide (1 < z) = false ∧ decide (0 < t) = true ∧ (z == 0) = true)) ∨ ((((t : Int) == 9) = false ∧ decide (0 < t) = true ∧ (z == 0) = true)) := by
        by_cases h9 : t = 9 ∧ 1 < z
        · exact .inl ⟨beq_iff_eq.2 (by omega), decide_eq_true h9.2⟩
        · obtain ⟨h1, h2⟩ := (hzj rfl).resolve_right h9
          rcases Nat.lt_or_ge t 9 with h | h
          · exact .inr (.inr ⟨beq_eq_false_iff_ne.2 (by omega), decide_eq_true h1, beq_iff_eq.2 h2⟩)
          · exact .inr (.inl ⟨beq_iff_eq.2 (by omega), decide_eq_false (by omega), decide_eq_true h1, beq_iff_eq.2 h2⟩)
      clear hz128 hzj v1 hlt
      rcases hcs with ⟨f1, f2⟩ | ⟨f1, f2, f3, f4⟩ | ⟨f1, f2, f3⟩
      all_goals
        go_wp2
        refine bodyPost_ret (v := got 0 0 5 k) (by simp [results, Tryz.results84, go_sem]) rfl ⟨rfl, ?_⟩
        exact ((Bel.refl _).alloc _)

set_option maxHeartbeats 1000000 in
theorem rget_short (A : Option Addr) (n c k : Nat) (zs : List Int) (w : World) (hi : Ints .u8 w A n zs) (hn : n ≤ 1000000000) (hb : Bytes zs) (hk : k ≤ n) (hd : n < k + 10)
    (hl : ∀ i, k + i < n → 128 ≤ zs.getD (k + i) 0) :
    Calls Tryz.prog 84 #[.slice A n c, .int .i64 k] w fun e w' => e = .returned (got 0 0 6 k) ∧ Bel w w' := by
  have hk' : k ≤ 1000000000 := by omega
  have HI := Lib.hid (hi.bel ((Bel.refl w).alloc (.cells #[.int .i64 0, .int .i64 0] 34)))
  have HB := Lib.hid hb
  have HL := Lib.hid hl
  have hkn : (k : Int) ≤ (n : Int) := by omega
  clear hi hb hl
  go_enter Tryz.func84, Tryz.ntmps84
  go_wp2_with fail
  go_loop [4, 5, 7, 8] (fun p q x i => ∃ t : Nat, k + t ≤ n ∧ i = .int .i64 t ∧ x = .int .u64 (val zs k t) ∧ p = .int .u64 0 ∧ q = .int .i64 0) (fun _ _ _ i => n + 1 - (intOf i).toNat)
  case atStart => exact ⟨0, by omega, rfl, rfl, rfl, rfl⟩
  case round =>
    obtain ⟨t, ht, rfl, rfl, rfl, rfl⟩ := hrel
    have d1 : (t : Int) < 10 := by omega
    by_cases hlt : k + t < n
    · obtain ⟨b, o, rfl, hbw, hcell⟩ := HI.out.cell (i := k + t) hlt
      have hv := val_lt zs k t
      obtain ⟨z0, z1⟩ := HB.out (k + t)
      have HV := Lib.hid (show val zs k (t + 1) = val zs k t + zs.getD (k + t) 0 % 128 * 128 ^ t from rfl)
      have hz1 : 128 ≤ zs.getD (k + t) 0 := HL.out t hlt
      generalize zs.getD (k + t) 0 = z at *
      obtain ⟨v0, v1⟩ := hv
      generalize val zs k t = v at *
      have d2 : (k : Int) + (t : Int) < (n : Int) := by omega
      have E2 := Lib.hid (or_step' t v0 v1 z0 (.inl (by omega)))
      have f1 : ((t : Int) == 9) = false := beq_eq_false_iff_ne.2 (by omega)
      have f2 : (z == 0) = false := beq_eq_false_iff_ne.2 (by omega)
      clear v1
      go_wp2
      all_goals
        go_round
        case rel => first | exact ⟨t + 1, by omega, by go_num, by rw [E2.out, HV.out], rfl, rfl⟩ | exact ⟨_, _, _, _, ⟨t + 1, by omega, by go_num, by rw [E2.out, HV.out], rfl, rfl⟩, rfl, rfl, rfl, rfl⟩
        case measure => simp [intOf]; omega
    · have d2 : (n : Int) ≤ (k : Int) + (t : Int) := by omega
      go_wp2
      refine bodyPost_ret (v := got 0 0 6 k) (by simp [results, Tryz.results84, go_sem]) rfl ⟨rfl, ?_⟩
      exact ((Bel.refl _).alloc _)

/-- The document's Get, of any bytes at any place. -/
theorem ref_get (A : Option Addr) (n c : Nat) (zs : List Int) (at_ x to e bad : Int) (w : World) (hi : Ints .u8 w A n zs) (hn : n ≤ 1000000000) (hb : Bytes zs) (hw : Way zs at_ x to e bad) :
    Calls Tryz.prog 84 #[.slice A n c, .int .i64 at_] w fun r w' => r = .returned (got x to e bad) ∧ Bel w w' := by
  have hlen := hi.1
  rcases hw with ⟨h, rfl, rfl, rfl, rfl⟩ | ⟨k, rfl, hk, rfl, rfl, rfl, h⟩ | ⟨k, j, rfl, hj, hkj, hl, hz, h0, h9, rfl, rfl, rfl, rfl⟩
  · exact rget_range A n c at_ w (by omega)
  · rcases h with ⟨rfl, h1, h2⟩ | ⟨rfl, h1, h2⟩ | ⟨rfl, j, hj, hj0, hkj, hl, hz, h0⟩
    · exact rget_short A n c k zs w hi hn hb (by omega) (by omega) (fun i h => h2 i (by omega))
    · exact rget_bad A n c k 9 zs w hi hn hb (by omega) (by omega) (fun i h => h2 i (by omega)) (.inr ⟨rfl, by have := h2 9 (by omega); omega⟩)
    · exact rget_bad A n c k j zs w hi hn hb hj (by omega) hl (h0.imp (fun h => ⟨hj0, h⟩) id)
  · exact rget_ok A n c k j zs w hi hn hb hj (by omega) hl hz h0 h9
end Cd
end Go.Proofs.YtpohcdfmkcfonaaGreatDoor
