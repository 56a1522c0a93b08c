/-
  What codec.Get answers in this program, of any bytes at any place: a number and the place behind it, or why there is none.
  Conditions: the slice reads as bytes, of at most 2^47 of them.
-/
import Derived.Test.YtpohcdfmkcfonaaGreatDoorGGet
namespace Go.Proofs.YtpohcdfmkcfonaaGreatDoor
open Go.RowKit Go.Shelf
set_option linter.unusedVariables false
namespace Cd
/-- A number, the place behind it, a fault. -/
abbrev got (n to e bad : Int) : Value := .tuple #[.int .u64 n, .int .i64 to, .agg #[.int .i64 e, .int .i64 bad]]

theorem get_range (A : Option Addr) (n c : Nat) (at_ : Int) (w : World) (h : at_ < 0 ∨ (n : Int) < at_) :
    Calls Tryz.prog 63 #[.slice A n c, .int .i64 at_] w fun e w' => e = .returned (got 0 0 3 0) ∧ Bel w w' := by
  by_cases h0 : at_ < 0
  · go_enter Tryz.func63, Tryz.ntmps63
    go_wp2
    refine bodyPost_ret (v := got 0 0 3 0) (by simp [results, Tryz.results63, go_sem]) rfl ⟨rfl, ?_⟩
    exact (Bel.refl _).alloc _
  · have h1 : (n : Int) < at_ := by omega
    clear h
    go_enter Tryz.func63, Tryz.ntmps63
    go_wp2
    refine bodyPost_ret (v := got 0 0 3 0) (by simp [results, Tryz.results63, go_sem]) rfl ⟨rfl, ?_⟩
    exact (Bel.refl _).alloc _

/-- The part of the bytes that is looked at, and a head of that. -/
theorem head_ (A : Option Addr) (n c k m : Nat) (zs : List Int) (w : World) (hi : Ints .u8 w A n zs) (hk : k + m ≤ n) (hc : n ≤ c) :
    ∃ A', (∀ w' : World, (Instr.slice 25 (.slice A n c) (some (.int .i64 (k : Int))) (some (.int .i64 ((k + m : Nat) : Int))) none).run Tryz.prog w' = .ok (.slice A' m (c - k)) w') ∧ Ints .u8 w A' m ((zs.drop k).take m) := by
  refine ⟨_, fun w' => ?_, hi.part hk hc⟩
  rw [slice_lh A n c k ((k + m : Nat) : Int) w' (by omega) (by omega) (by omega)]
  simp only [Int.toNat_natCast, Nat.add_sub_cancel_left]
theorem start_ (A : Option Addr) (n c m : Nat) (zs : List Int) (w : World) (hi : Ints .u8 w A n zs) (hk : m ≤ n) (hc : n ≤ c) :
    ∃ A', (∀ w' : World, (Instr.slice 25 (.slice A n c) none (some (.int .i64 (m : Int))) none).run Tryz.prog w' = .ok (.slice A' m c) w') ∧ Ints .u8 w A' m (zs.take m) := by
  refine ⟨_, fun w' => ?_, by have := hi.part (k := 0) (m := m) (by omega) hc; simpa using this⟩
  rw [slice_h A n c m w' (by omega) (by omega)]
  simp

set_option maxHeartbeats 1000000 in
theorem get_ok (A : Option Addr) (n c k j : Nat) (zs : List Int) (w : World) (hi : Ints .u8 w A n zs) (hn : n ≤ 1000000000) (hb : Bytes zs) (hc : n ≤ c) (hj : j < 10) (hkj : k + j < n)
    (hl : ∀ i, i < j → 128 ≤ zs.getD (k + i) 0) (hz : zs.getD (k + j) 0 < 128) (h0 : 0 < j → 0 < zs.getD (k + j) 0) (h9 : j = 9 → zs.getD (k + j) 0 = 1) :
    Calls Tryz.prog 63 #[.slice A n c, .int .i64 k] w fun e w' => e = .returned (got (val zs k (j + 1)) ((k : Int) + j + 1) 0 0) ∧ Bel w w' := by
  have hk' : k ≤ 1000000000 := by omega
  obtain ⟨m, H, hm, hH, hd⟩ : ∃ (m : Nat) (H : Int), (k + m ≤ n ∧ j < m) ∧ ((k + m : Nat) : Int) = H ∧ ((H = (k : Int) + 10 ∧ (k : Int) + 10 ≤ (n : Int) ∧ m = 10) ∨ (H = n ∧ (n : Int) < (k : Int) + 10)) := by
    rcases Nat.lt_or_ge n (k + 10) with h | h
    · exact ⟨n - k, n, by omega, by omega, .inr ⟨rfl, by omega⟩⟩
    · exact ⟨10, (k : Int) + 10, by omega, by omega, .inl ⟨rfl, by omega, rfl⟩⟩
  obtain ⟨hm, hjm⟩ := hm
  have hm' : m ≤ 1000000000 := by omega
  obtain ⟨A', hs, hi'⟩ := head_ A n c k m zs w hi hm hc
  rw [hH] at hs
  obtain ⟨A2, hs2, hi2⟩ := start_ A' m (c - k) (j + 1) _ w hi' (by omega) (by omega)
  rw [show ((j + 1 : Nat) : Int) = (j : Int) + 1 by omega] at hs2
  have hF : First ((zs.drop k).take m) m j := .inr ⟨j, rfl, hjm, fun i h => by rw [getD_part _ _ _ _ (by omega)]; exact hl i h, by rw [getD_part _ _ _ _ hjm]; exact hz⟩
  have IF := Lib.hid (fun w' (hw : Bel w w') => indexFunc A' m (c - k) _ j w' (hi'.bel hw) (by omega) hF)
  have hz2 : (((zs.drop k).take m).take (j + 1)).getD j 0 = zs.getD (k + j) 0 := by
    rw [List.take_take, Nat.min_eq_left (by omega), getD_part _ _ _ _ (by omega)]
  have hsB : shortB (j + 1) ((((zs.drop k).take m).take (j + 1)).getD (j + 1 - 1) 0) = true := by
    rw [Nat.add_sub_cancel, hz2]
    have b0 := hb (k + j)
    unfold shortB
    split
    · rfl
    · split
      · rw [beq_iff_eq]; exact h9 (by omega)
      · exact decide_eq_true (h0 (by omega))
  have SH := Lib.hid (fun w' (hw : Bel w w') => by have := shortest A2 (j + 1) (c - k) _ w' (hi2.bel hw) (by omega) (by omega); rw [hsB] at this; exact this)
  have HI2 := Lib.hid hi2
  have HB := Lib.hid hb
  have H9 := Lib.hid h9
  clear hi2 hb hsB hz2 hF hi' hi hl h0 h9 hz
  rcases hd with ⟨rfl, hd, rfl⟩ | ⟨rfl, hd⟩
  all_goals
    clear hH
    go_enter Tryz.func63, Tryz.ntmps63
    go_wp2_with (first | (go_at_call 81; refine (IF.out _ ((Bel.refl _).alloc _)).mono ?_; rintro e w' ⟨rfl, rfl⟩) | (go_at_call 83; refine (SH.out _ ((Bel.refl _).alloc _)).mono ?_; rintro e w' ⟨rfl, rfl⟩))
    go_loop [9, 57] (fun x i => ∃ t : Nat, t ≤ j + 1 ∧ i = .int .i64 t ∧ x = .int .u64 (val zs k t)) (fun _ i => j + 1 - (intOf i).toNat)
    case atStart => exact ⟨0, Nat.zero_le _, rfl, rfl⟩
    case round =>
      obtain ⟨t, ht, rfl, rfl⟩ := hrel
      by_cases hlt : t < j + 1
      · obtain ⟨b, o, rfl, hbw, hcell⟩ := (HI2.out.bel ((Bel.refl _).alloc (.cells #[.int .i64 0, .int .i64 0] 34))).cell hlt
        rw [List.take_take, Nat.min_eq_left (by omega), getD_part _ _ _ _ (by omega)] at hcell
        have hv := val_lt zs k t
        obtain ⟨z0, z1⟩ := HB.out (k + t)
        have HV := Lib.hid (show val zs k (t + 1) = val zs k t + zs.getD (k + t) 0 % 128 * 128 ^ t from rfl)
        have hz8 : t ≤ 8 ∨ (t = 9 ∧ zs.getD (k + t) 0 ≤ 1) := by
          rcases Nat.lt_or_ge t 9 with h | h
          · exact .inl (by omega)
          · obtain rfl : t = 9 := by omega
            obtain rfl : j = 9 := by omega
            have := H9.out rfl
            exact .inr ⟨rfl, by omega⟩
        generalize zs.getD (k + t) 0 = z at *
        obtain ⟨v0, v1⟩ := hv
        generalize val zs k t = v at *
        have E1 : bits .andNot .u8 z 128 = z % 128 := andNot128 z0 z1
        have E2 := Lib.hid (or_step t v0 v1 z0 hz8)
        have ht' : t < j + 1 := hlt
        clear v1 hz8
        go_wp2
        go_round
        case rel => exact ⟨t + 1, by omega, by go_num, by rw [E2.out, HV.out]⟩
        case measure => simp [intOf]; omega
      · obtain rfl : t = j + 1 := by omega
        go_wp2
        refine bodyPost_ret (v := got (val zs k (j + 1)) ((k : Int) + j + 1) 0 0) (by simp [results, Tryz.results63, go_sem]) rfl ⟨rfl, ?_⟩
        exact ((Bel.refl _).alloc _)

set_option maxHeartbeats 1000000 in
theorem get_bad (A : Option Addr) (n c k j : Nat) (zs : List Int) (w : World) (hi : Ints .u8 w A n zs) (hn : n ≤ 1000000000) (hc : n ≤ c) (hj : j < 10) (hj0 : 0 < j) (hkj : k + j < n)
    (hl : ∀ i, i < j → 128 ≤ zs.getD (k + i) 0) (hz : zs.getD (k + j) 0 < 128) (h0 : zs.getD (k + j) 0 = 0 ∨ (j = 9 ∧ 1 < zs.getD (k + j) 0)) :
    Calls Tryz.prog 63 #[.slice A n c, .int .i64 k] w fun e w' => e = .returned (got 0 0 5 k) ∧ Bel w w' := by
  have hk' : k ≤ 1000000000 := by omega
  obtain ⟨m, H, hm, hH, hd⟩ : ∃ (m : Nat) (H : Int), (k + m ≤ n ∧ j < m) ∧ ((k + m : Nat) : Int) = H ∧ ((H = (k : Int) + 10 ∧ (k : Int) + 10 ≤ (n : Int) ∧ m = 10) ∨ (H = n ∧ (n : Int) < (k : Int) + 10)) := by
    rcases Nat.lt_or_ge n (k + 10) with h | h
    · exact ⟨n - k, n, by omega, by omega, .inr ⟨rfl, by omega⟩⟩
    · exact ⟨10, (k : Int) + 10, by omega, by omega, .inl ⟨rfl, by omega, rfl⟩⟩
  obtain ⟨hm, hjm⟩ := hm
  have hm' : m ≤ 1000000000 := by omega
  obtain ⟨A', hs, hi'⟩ := head_ A n c k m zs w hi hm hc
  rw [hH] at hs
  obtain ⟨A2, hs2, hi2⟩ := start_ A' m (c - k) (j + 1) _ w hi' (by omega) (by omega)
  rw [show ((j + 1 : Nat) : Int) = (j : Int) + 1 by omega] at hs2
  have hF : First ((zs.drop k).take m) m j := .inr ⟨j, rfl, hjm, fun i h => by rw [getD_part _ _ _ _ (by omega)]; exact hl i h, by rw [getD_part _ _ _ _ hjm]; exact hz⟩
  have IF := Lib.hid (fun w' (hw : Bel w w') => indexFunc A' m (c - k) _ j w' (hi'.bel hw) (by omega) hF)
  have hz2 : (((zs.drop k).take m).take (j + 1)).getD j 0 = zs.getD (k + j) 0 := by
    rw [List.take_take, Nat.min_eq_left (by omega), getD_part _ _ _ _ (by omega)]
  have hsB : shortB (j + 1) ((((zs.drop k).take m).take (j + 1)).getD (j + 1 - 1) 0) = false := by
    rw [Nat.add_sub_cancel, hz2]
    unfold shortB
    rw [if_neg (by omega)]
    rcases h0 with h | ⟨rfl, h⟩
    · rw [h]; split <;> rfl
    · rw [if_pos rfl]; exact beq_eq_false_iff_ne.2 (by omega)
  have SH := Lib.hid (fun w' (hw : Bel w w') => by have := shortest A2 (j + 1) (c - k) _ w' (hi2.bel hw) (by omega) (by omega); rw [hsB] at this; exact this)
  clear hi2 hsB hz2 hF hi' hi hl h0 hz
  rcases hd with ⟨rfl, hd, rfl⟩ | ⟨rfl, hd⟩
  all_goals
    clear hH
    go_enter Tryz.func63, Tryz.ntmps63
    go_wp2_with (first | (go_at_call 81; refine (IF.out _ ((Bel.refl _).alloc _)).mono ?_; rintro e w' ⟨rfl, rfl⟩) | (go_at_call 83; refine (SH.out _ ((Bel.refl _).alloc _)).mono ?_; rintro e w' ⟨rfl, rfl⟩))
    refine bodyPost_ret (v := got 0 0 5 k) (by simp [results, Tryz.results63, go_sem]) rfl ⟨rfl, ?_⟩
    exact ((Bel.refl _).alloc _)

set_option maxHeartbeats 1000000 in
theorem get_short (A : Option Addr) (n c k : Nat) (zs : List Int) (w : World) (hi : Ints .u8 w A n zs) (hn : n ≤ 1000000000) (hc : n ≤ c) (hk : k ≤ n) (hd : n < k + 10)
    (hl : ∀ i, k + i < n → 128 ≤ zs.getD (k + i) 0) :
    Calls Tryz.prog 63 #[.slice A n c, .int .i64 k] w fun e w' => e = .returned (got 0 0 6 k) ∧ Bel w w' := by
  have hk' : k ≤ 1000000000 := by omega
  obtain ⟨A', hs, hi'⟩ := head_ A n c k (n - k) zs w hi (by omega) hc
  rw [show ((k + (n - k) : Nat) : Int) = (n : Int) by omega] at hs
  obtain ⟨m, hm⟩ : ∃ m, m = n - k := ⟨_, rfl⟩
  rw [← hm] at hs hi'
  have hm' : m < 10 := by omega
  have hF : First ((zs.drop k).take m) m (-1) := .inl ⟨rfl, fun i h => by rw [getD_part _ _ _ _ h]; exact hl i (by omega)⟩
  have IF := Lib.hid (fun w' (hw : Bel w w') => indexFunc A' m (c - k) _ (-1) w' (hi'.bel hw) (by omega) hF)
  have hd' : (n : Int) < (k : Int) + 10 := by omega
  clear hF hi' hi hl hm
  go_enter Tryz.func63, Tryz.ntmps63
  go_wp2_with (go_at_call 81; refine (IF.out _ ((Bel.refl _).alloc _)).mono ?_; rintro e w' ⟨rfl, rfl⟩)
  refine bodyPost_ret (v := got 0 0 6 k) (by simp [results, Tryz.results63, go_sem]) rfl ⟨rfl, ?_⟩
  exact ((Bel.refl _).alloc _)

set_option maxHeartbeats 1000000 in
theorem get_full (A : Option Addr) (n c k : Nat) (zs : List Int) (w : World) (hi : Ints .u8 w A n zs) (hn : n ≤ 1000000000) (hc : n ≤ c) (hd : k + 10 ≤ n)
    (hl : ∀ i, i < 10 → 128 ≤ zs.getD (k + i) 0) :
    Calls Tryz.prog 63 #[.slice A n c, .int .i64 k] w fun e w' => e = .returned (got 0 0 5 k) ∧ Bel w w' := by
  have hk' : k ≤ 1000000000 := by omega
  obtain ⟨A', hs, hi'⟩ := head_ A n c k 10 zs w hi (by omega) hc
  rw [show ((k + 10 : Nat) : Int) = (k : Int) + 10 by omega] at hs
  have hF : First ((zs.drop k).take 10) 10 (-1) := .inl ⟨rfl, fun i h => by rw [getD_part _ _ _ _ h]; exact hl i (by omega)⟩
  have IF := Lib.hid (fun w' (hw : Bel w w') => indexFunc A' 10 (c - k) _ (-1) w' (hi'.bel hw) (by omega) hF)
  have hd' : (k : Int) + 10 ≤ (n : Int) := by omega
  clear hF hi' hi hl
  go_enter Tryz.func63, Tryz.ntmps63
  go_wp2_with (go_at_call 81; refine (IF.out _ ((Bel.refl _).alloc _)).mono ?_; rintro e w' ⟨rfl, rfl⟩)
  refine bodyPost_ret (v := got 0 0 5 k) (by simp [results, Tryz.results63, go_sem]) rfl ⟨rfl, ?_⟩
  exact ((Bel.refl _).alloc _)

/-- Get, of any bytes at any place. -/
theorem get (A : Option Addr) (n c : Nat) (zs : List Int) (at_ x to e bad : Int) (w : World) (hi : Ints .u8 w A n zs) (hn : n ≤ 1000000000) (hb : Bytes zs) (hc : n ≤ c) (hw : Way zs at_ x to e bad) :
    Calls Tryz.prog 63 #[.slice A n c, .int .i64 at_] w fun r w' => r = .returned (got x to e bad) ∧ Bel w w' := by
  have hlen := hi.1
  rcases hw with ⟨h, rfl, rfl, rfl, rfl⟩ | ⟨k, rfl, hk, rfl, rfl, rfl, h⟩ | ⟨k, j, rfl, hj, hkj, hl, hz, h0, h9, rfl, rfl, rfl, rfl⟩
  · exact get_range A n c at_ w (by omega)
  · rcases h with ⟨rfl, h1, h2⟩ | ⟨rfl, h1, h2⟩ | ⟨rfl, j, hj, hj0, hkj, hl, hz, h0⟩
    · exact get_short A n c k zs w hi hn hc (by omega) (by omega) (fun i h => h2 i (by omega))
    · exact get_full A n c k zs w hi hn hc (by omega) h2
    · exact get_bad A n c k j zs w hi hn hc hj hj0 (by omega) hl hz h0
  · exact get_ok A n c k j zs w hi hn hb hc hj (by omega) hl hz h0 h9
end Cd
end Go.Proofs.YtpohcdfmkcfonaaGreatDoor
