/-
  A slice of slices of bytes as a walk reads it; what long answers. Conditions: no slice is longer than the greatest length.
-/
import Derived.Test.YtaniijpppmipbaaDoorKHash
namespace Go.Proofs.YtaniijpppmipbaaDoor
open Go.RowKit Go.Shelf
set_option linter.unusedVariables false
namespace Kk

/-- One of the slices. -/
structure One (w : World) (P : Option Addr) (m k : Nat) (zs : List Int) : Prop where
  sl : Sl w P m k zs
  by_ : By zs
  max : m ≤ 140737488355328
  cmax : k ≤ maxLen
theorem One.bel {w w' : World} {P : Option Addr} {m k : Nat} {zs : List Int} (h : One w P m k zs) (hb : Bel w w') : One w' P m k zs := ⟨h.sl.bel hb, h.by_, h.max, h.cmax⟩
/-- A slice that reads as slices of numbers. -/
def Lst (w : World) (A : Option Addr) (n : Nat) (zss : List (List Int)) : Prop :=
  zss.length = n ∧ (0 < n → ∃ b o, A = some ⟨b, o, none⟩ ∧ b < w.heap.size ∧ ∀ i, i < n → ∃ P m k, w.cell? ⟨b, o + i, none⟩ = some (.slice P m k) ∧ One w P m k (zss.getD i []))
theorem Lst.bel {w w' : World} {A : Option Addr} {n : Nat} {zss : List (List Int)} (h : Lst w A n zss) (hb : Bel w w') : Lst w' A n zss :=
  ⟨h.1, fun hn => by
    obtain ⟨b, o, e, hlt, hc⟩ := h.2 hn
    refine ⟨b, o, e, Nat.lt_of_lt_of_le hlt (Below.size hb), fun i hi => ?_⟩
    obtain ⟨P, m, k, h1, h2⟩ := hc i hi
    exact ⟨P, m, k, (Below.cell (p := ⟨b, o + i, none⟩) hb hlt).trans h1, h2.bel hb⟩⟩
/-- How many bytes the first k have. -/
def tot (zss : List (List Int)) : Nat → Nat
  | 0 => 0
  | k + 1 => tot zss k + (zss.getD k []).length
theorem tot_mono (zss : List (List Int)) {j k : Nat} (h : j ≤ k) : tot zss j ≤ tot zss k := by
  induction h with
  | refl => exact Nat.le_refl _
  | step _ ih => exact Nat.le_trans ih (Nat.le_add_right _ _)
/-- What stands together of the first k. -/
def flat (zss : List (List Int)) : Nat → List Int
  | 0 => []
  | k + 1 => flat zss k ++ zss.getD k []
theorem flat_len (zss : List (List Int)) : ∀ k, (flat zss k).length = tot zss k
  | 0 => rfl
  | k + 1 => by show (flat zss k ++ _).length = _; rw [List.length_append, flat_len zss k]; rfl
theorem flat_pre (zss : List (List Int)) {j k : Nat} (h : j ≤ k) : flat zss j <+: flat zss k := by
  induction h with
  | refl => exact List.prefix_refl _
  | step _ ih => exact ih.trans (List.prefix_append _ _)
/-- Are they long? -/
def lng (n : Nat) (zss : List (List Int)) : Bool := decide (700 < tot zss n ∨ 40 < n)

set_option maxRecDepth 100000 in
set_option maxHeartbeats 1000000 in
theorem long_ (A : Option Addr) (n c : Nat) (zss : List (List Int)) (w : World) (h : Lst w A n zss) (hn : n ≤ 140737488355328) :
    Calls Tryd.prog 10 #[.slice A n c] w fun e w' => e = .returned (.bool (lng n zss)) ∧ w = w' := by
  have H := Lib.hid h
  clear h
  go_enter Tryd.func10, Tryd.ntmps10
  go_wp2
  go_loop [3, 4] (fun s i => ∃ k : Nat, s = .int .i64 (tot zss k : Nat) ∧ i = .int .i64 k ∧ k ≤ n ∧ tot zss k ≤ 700) (fun _ i => n - (intOf i).toNat)
  case atStart => exact ⟨0, rfl, rfl, Nat.zero_le _, by simp [tot]⟩
  case round =>
    obtain ⟨k, rfl, rfl, hk, ht⟩ := hrel
    by_cases hlt : k < n
    · obtain ⟨b, o, rfl, hb, hc⟩ := H.out.2 (by omega)
      obtain ⟨P, m, kk, h1, h2⟩ := hc k hlt
      have TS := Lib.hid (show tot zss (k + 1) = tot zss k + m by rw [← h2.sl.len]; rfl)
      have TM := Lib.hid (tot_mono zss (show k + 1 ≤ n by omega))
      have hm := h2.max
      obtain ⟨t, htt⟩ : ∃ t, tot zss k = t := ⟨_, rfl⟩
      rw [htt] at TS ht ⊢
      clear h2 hc htt
      by_cases hbig : 700 < t + m
      · have HR := Lib.hid (show lng n zss = true from by unfold lng; rw [decide_eq_true_eq]; have := TS.out; have := TM.out; omega)
        go_wp2
        go_ret
        rw [HR.out]
        exact ⟨rfl, rfl⟩
      · go_wp2
        go_round
        case rel => exact ⟨k + 1, by rw [TS.out]; go_num, by go_num, by omega, by have := TS.out; omega⟩
        case measure => simp [intOf] <;> omega
    · obtain rfl : k = n := by omega
      have HR := Lib.hid (show lng k zss = decide (40 < (k : Int)) by
        unfold lng
        rw [decide_eq_decide]
        omega)
      go_wp2
      go_ret
      rw [HR.out]
      exact ⟨rfl, rfl⟩
theorem own_ptr {w : World} {base : Nat} {e : TypeId} {v : Value} {n : Nat} {zs : List Int} (h : w.ownsRow base e 1 v n (zs.map (Value.int .u8))) :
    ∃ A c, v = .slice A n c ∧ Ints .u8 w A n zs ∧ n ≤ c ∧ c ≤ maxLen ∧ ∀ x, A = some x → base ≤ x.block := by
  obtain ⟨A, c, rfl, h1, h2, h3⟩ := ints_of_own h
  refine ⟨A, c, rfl, h1, h2, h3, fun x hx => ?_⟩
  subst hx
  rcases h.2 with ⟨h4, _⟩ | ⟨g, cap, cur, h4, hb, _⟩
  · cases h4
  · injection h4 with h4
    injection h4 with h4
    subst h4
    exact hb
end Kk
end Go.Proofs.YtaniijpppmipbaaDoor
