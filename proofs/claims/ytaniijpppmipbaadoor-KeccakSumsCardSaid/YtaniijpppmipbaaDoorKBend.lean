/-
  What bendRows of a state answers in this program.
-/
import Derived.Test.YtaniijpppmipbaaDoorKKey
namespace Go.Proofs.YtaniijpppmipbaaDoor
open Go.RowKit Go.Shelf
set_option linter.unusedVariables false
namespace Kk

/-- The words behind n places of bendRows. -/
def bendW (A : List Wd) (i : Nat) : Wd := g A i ^^^ (~~~ g A ((i % 5 + 1) % 5 + 5 * (i / 5)) &&& g A ((i % 5 + 2) % 5 + 5 * (i / 5)))
def bent (A : List Wd) (n : Nat) : List Wd := (List.range 25).map fun i => if i < n then bendW A i else g A i
theorem g_map (f : Nat → Wd) {i : Nat} (h : i < 25) : g ((List.range 25).map f) i = f i := by
  unfold g
  rw [List.getD_eq_getElem?_getD, List.getElem?_map, List.getElem?_range h]
  rfl
theorem map_g {A : List Wd} (h : A.length = 25) : (List.range 25).map (g A) = A := by
  apply List.ext_getElem (by simp [h])
  intro i h1 h2
  simp [g, List.getElem?_eq_getElem h2]
theorem bent0 {A : List Wd} (h : A.length = 25) : bent A 0 = A := by
  unfold bent
  simp only [Nat.not_lt_zero, if_false]
  exact map_g h
theorem bent25 (A : List Wd) : bent A 25 = chi A := by
  unfold bent chi
  apply List.map_congr_left
  intro i hi
  rw [if_pos (by simpa using hi)]
  rfl
theorem set_map (f : Nat → Wd) (n : Nat) (x : Wd) : ((List.range 25).map f).set n x = (List.range 25).map fun i => if i = n then x else f i := by
  apply List.ext_getElem (by simp)
  intro i h1 h2
  simp only [List.getElem_set, List.getElem_map, List.getElem_range]
  by_cases h : n = i
  · simp [h]
  · simp [h, Ne.symm h]
theorem bent_succ (A : List Wd) (n : Nat) : (bent A n).set n (bendW A n) = bent A (n + 1) := by
  unfold bent
  rw [set_map]
  apply List.map_congr_left
  intro i _
  by_cases h : i = n
  · subst h; simp
  · rw [if_neg h]
    by_cases h2 : i < n
    · rw [if_pos h2, if_pos (by omega)]
    · rw [if_neg h2, if_neg (by omega)]
theorem bent_at {A : List Wd} {n i : Nat} (h1 : n ≤ i) (h2 : i < 25) : g (bent A n) i = g A i := by
  unfold bent
  rw [g_map _ h2, if_neg (by omega)]

set_option maxRecDepth 100000 in
set_option maxHeartbeats 1000000 in
theorem bendRows (b : Nat) (A : List Wd) (r : Int) (w : World) (h : St w b A r) :
    Calls Tryd.prog 57 #[.pointer (some ⟨b, 0, none⟩)] w fun e w' => e = .returned (.tuple #[]) ∧ St w' b (chi A) r ∧ Kep (fun i => i = b) w w' := by
  have H := Lib.hid h
  have hbl := h.2.lt
  clear h
  go_enter Tryd.func57, Tryd.ntmps57
  go_wp2
  go_loopw [5] (fun i wr => ∃ y : Nat, i = .int .i64 y ∧ y ≤ 5 ∧ St wr b (bent A (5 * y)) r ∧ Kep (fun i => i = b) w wr) (fun i _ => 5 - (intOf i).toNat)
  case atStart => exact ⟨0, rfl, by omega, by rw [Nat.mul_zero, bent0 H.out.len]; exact H.out, Kep.refl _ _⟩
  case round =>
    obtain ⟨y, rfl, hy, hs, hk⟩ := hrel
    have HS := Lib.hid hs
    have HK := Lib.hid hk
    by_cases hlt : y < 5
    · have c0 := hs.word (i := y * 5) (by omega)
      have c1 := hs.word (i := y * 5 + 1) (by omega)
      have c2 := hs.word (i := y * 5 + 2) (by omega)
      have c3 := hs.word (i := y * 5 + 3) (by omega)
      have c4 := hs.word (i := y * 5 + 4) (by omega)
      rw [bent_at (by omega) (by omega)] at c0 c1 c2 c3 c4
      have hb2 : b < wr.heap.size := hs.2.lt
      clear hs hk
      go_wp2
      obtain ⟨C, hC⟩ : ∃ C : Array Value, C = #[.int .u64 (U (g A (y * 5))), .int .u64 (U (g A (y * 5 + 1))), .int .u64 (U (g A (y * 5 + 2))), .int .u64 (U (g A (y * 5 + 3))), .int .u64 (U (g A (y * 5 + 4)))] := ⟨_, rfl⟩
      rw [← hC]
      have B0 := Blk.new wr C 50
      obtain ⟨rb, hrb⟩ : ∃ rb, rb = wr.heap.size := ⟨_, rfl⟩
      rw [← hrb] at B0 hb2 ⊢
      have S0 := Lib.hid ((HS.out.bel ((Bel.refl wr).alloc (.cells C 50))))
      have K0 := Lib.hid (HK.out.alloc (.cells C 50))
      have HB0 := Lib.hid B0
      have HC := Lib.hid hC
      clear hrb hC c0 c1 c2 c3 c4 HS HK B0
      generalize wr.alloc (.cells C 50) = w1 at *
      go_loopw [14] (fun i wr => ∃ x : Nat, i = .int .i64 x ∧ x ≤ 5 ∧ St wr b (bent A (5 * y + x)) r ∧ Blk wr rb C 50 ∧ Kep (fun i => i = b) w wr) (fun i _ => 5 - (intOf i).toNat)
      case atStart => exact ⟨0, rfl, by omega, S0.out, HB0.out, K0.out⟩
      case round =>
        obtain ⟨x, rfl, hx, hs, hb, hk⟩ := hrel
        by_cases hlx : x < 5
        · have c0 := hb.cell 0 (v := .int .u64 (U (g A (y * 5)))) (by rw [HC.out]; rfl)
          have c1 := hb.cell 1 (v := .int .u64 (U (g A (y * 5 + 1)))) (by rw [HC.out]; rfl)
          have c2 := hb.cell 2 (v := .int .u64 (U (g A (y * 5 + 2)))) (by rw [HC.out]; rfl)
          have c3 := hb.cell 3 (v := .int .u64 (U (g A (y * 5 + 3)))) (by rw [HC.out]; rfl)
          have c4 := hb.cell 4 (v := .int .u64 (U (g A (y * 5 + 4)))) (by rw [HC.out]; rfl)
          have f0 := hs.frozen (y * 5 + x)
          have k0 := hs.word (i := y * 5 + x) (by omega)
          have SB := Lib.hid (show (bent A (5 * y + x)).set (y * 5 + x) (bendW A (5 * y + x)) = bent A (5 * y + (x + 1)) by rw [Nat.mul_comm y 5]; exact bent_succ A (5 * y + x))
          have e1 : (5 * y + x) % 5 = x := by omega
          have e2 : (5 * y + x) / 5 = y := by omega
          have WB := Lib.hid (show bendW A (5 * y + x) = g A (5 * y + x) ^^^ (~~~ g A ((x + 1) % 5 + 5 * y) &&& g A ((x + 2) % 5 + 5 * y)) by unfold bendW; rw [e1, e2])
          clear e1 e2
          have HS := Lib.hid hs
          have HB := Lib.hid hb
          have HK := Lib.hid hk
          clear hs hb hk
          obtain rfl | rfl | rfl | rfl | rfl : x = 0 ∨ x = 1 ∨ x = 2 ∨ x = 3 ∨ x = 4 := by omega
          · try simp only [Nat.add_zero] at k0 f0
            go_wp2
            go_region
            go_wp2
            go_roundw
            case rel =>
              refine ⟨1, rfl, by omega, ?_, ((HB.out.other (by omega) _ _).bel (Bel.refl _).drew), ((HK.out.set_self _ _).drew)⟩
              have h := (HS.out.set (i := y * 5 + 0) (by omega) (bendW A (5 * y + 0))).drew
              rw [SB.out, WB.out, show 5 * y + 0 = y * 5 by omega, show (0 + 1) % 5 + 5 * y = y * 5 + 1 by omega, show (0 + 2) % 5 + 5 * y = y * 5 + 2 by omega] at h
              rw [show (if IntKind.u64.signed = true then -1 else IntKind.u64.max) = 18446744073709551615 from rfl, not_u, and_u, xor_u]
              exact h
            case measure => simp [intOf] <;> omega
          · try simp only [Nat.add_zero] at k0 f0
            go_wp2
            go_region
            go_wp2
            go_roundw
            case rel =>
              refine ⟨2, rfl, by omega, ?_, ((HB.out.other (by omega) _ _).bel (Bel.refl _).drew), ((HK.out.set_self _ _).drew)⟩
              have h := (HS.out.set (i := y * 5 + 1) (by omega) (bendW A (5 * y + 1))).drew
              rw [SB.out, WB.out, show 5 * y + 1 = y * 5 + 1 by omega, show (1 + 1) % 5 + 5 * y = y * 5 + 2 by omega, show (1 + 2) % 5 + 5 * y = y * 5 + 3 by omega] at h
              rw [show (if IntKind.u64.signed = true then -1 else IntKind.u64.max) = 18446744073709551615 from rfl, not_u, and_u, xor_u]
              exact h
            case measure => simp [intOf] <;> omega
          · try simp only [Nat.add_zero] at k0 f0
            go_wp2
            go_region
            go_wp2
            go_roundw
            case rel =>
              refine ⟨3, rfl, by omega, ?_, ((HB.out.other (by omega) _ _).bel (Bel.refl _).drew), ((HK.out.set_self _ _).drew)⟩
              have h := (HS.out.set (i := y * 5 + 2) (by omega) (bendW A (5 * y + 2))).drew
              rw [SB.out, WB.out, show 5 * y + 2 = y * 5 + 2 by omega, show (2 + 1) % 5 + 5 * y = y * 5 + 3 by omega, show (2 + 2) % 5 + 5 * y = y * 5 + 4 by omega] at h
              rw [show (if IntKind.u64.signed = true then -1 else IntKind.u64.max) = 18446744073709551615 from rfl, not_u, and_u, xor_u]
              exact h
            case measure => simp [intOf] <;> omega
          · try simp only [Nat.add_zero] at k0 f0
            go_wp2
            go_region
            go_wp2
            go_roundw
            case rel =>
              refine ⟨4, rfl, by omega, ?_, ((HB.out.other (by omega) _ _).bel (Bel.refl _).drew), ((HK.out.set_self _ _).drew)⟩
              have h := (HS.out.set (i := y * 5 + 3) (by omega) (bendW A (5 * y + 3))).drew
              rw [SB.out, WB.out, show 5 * y + 3 = y * 5 + 3 by omega, show (3 + 1) % 5 + 5 * y = y * 5 + 4 by omega, show (3 + 2) % 5 + 5 * y = y * 5 by omega] at h
              rw [show (if IntKind.u64.signed = true then -1 else IntKind.u64.max) = 18446744073709551615 from rfl, not_u, and_u, xor_u]
              exact h
            case measure => simp [intOf] <;> omega
          · try simp only [Nat.add_zero] at k0 f0
            go_wp2
            go_region
            go_wp2
            go_roundw
            case rel =>
              refine ⟨5, rfl, by omega, ?_, ((HB.out.other (by omega) _ _).bel (Bel.refl _).drew), ((HK.out.set_self _ _).drew)⟩
              have h := (HS.out.set (i := y * 5 + 4) (by omega) (bendW A (5 * y + 4))).drew
              rw [SB.out, WB.out, show 5 * y + 4 = y * 5 + 4 by omega, show (4 + 1) % 5 + 5 * y = y * 5 by omega, show (4 + 2) % 5 + 5 * y = y * 5 + 1 by omega] at h
              rw [show (if IntKind.u64.signed = true then -1 else IntKind.u64.max) = 18446744073709551615 from rfl, not_u, and_u, xor_u]
              exact h
            case measure => simp [intOf] <;> omega
        · obtain rfl : x = 5 := by omega
          go_wp2
          go_roundw
          case rel => exact ⟨y + 1, by go_num, by omega, hs, hk⟩
          case measure => simp [intOf]; omega
    · obtain rfl : y = 5 := by omega
      go_wp2
      go_end0
      refine ⟨rfl, ?_, HK.out⟩
      have h := HS.out
      rwa [bent25] at h
end Kk
end Go.Proofs.YtaniijpppmipbaaDoor
