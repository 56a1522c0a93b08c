/-
  The mathematics of reading numbers within bounds: some are read of any bytes; their own bytes are read as they. No program, no condition.
-/
import Derived.Test.YtpfdakkameifkaaGReadY
namespace Go.Proofs.Ytpfdakkameifkaa
open Go.RowKit Go.Shelf
set_option linter.unusedVariables false
namespace Rm
open Cd
theorem val_one (zs : List Int) (k : Nat) {z : Int} (hz : zs.getD k 0 = z) (h0 : 0 ≤ z) (h1 : z < 128) : val zs k (0 + 1) = z := by
  have h : val zs k (0 + 1) = zs.getD k 0 % 128 + 128 * val zs (k + 1) 0 := val_front zs k 0
  have h2 : val zs (k + 1) 0 = 0 := rfl
  rw [h, h2, hz]
  omega
/-- N reads some number of any bytes. -/
theorem rn_of (zs : List Int) (hb : Bytes zs) (k : Nat) (hk : k ≤ zs.length) (least most : Int) : ∃ x k' f', RN zs k none least most x k' f' ∧ k' ≤ zs.length ∧ ((f' = none ∧ least ≤ x ∧ x ≤ most ∧ zs.take k ++ enc x = zs.take k') ∨ (∃ e, e ≠ 0 ∧ f' = some (e, (k : Int)) ∧ k' = k ∧ x = 0)) := by
  obtain ⟨x, k', f', hr, h0, h1, ho⟩ := ru_of zs hb k hk
  rcases hr with ⟨p, h, _⟩ | ⟨_, tl, e, bad, hw, hm, hle, hx⟩
  · cases h
  rcases hm with ⟨rfl, hk', rfl⟩ | ⟨he, rfl, rfl⟩
  · rcases ho with ⟨_, h2, h3⟩ | ⟨_, _, h2, _⟩
    · by_cases hb1 : least ≤ x ∧ x ≤ most
      · exact ⟨x, k', none, .inr ⟨rfl, tl, 0, 0, ⟨x, tl, 0, bad, hw, h0, h1, .inr (.inr ⟨rfl, hb1.1, hb1.2, rfl, rfl, rfl, rfl⟩)⟩, .inl ⟨rfl, hk', rfl⟩, hle, fun h => absurd rfl h⟩, hle, .inl ⟨rfl, hb1.1, hb1.2, h3⟩⟩
      · refine ⟨0, k, some (3, (k : Int)), .inr ⟨rfl, 0, 3, (k : Int), ⟨x, tl, 0, bad, hw, h0, h1, .inr (.inl ⟨rfl, by omega, rfl, rfl, rfl, rfl⟩)⟩, .inr ⟨by decide, rfl, rfl⟩, hk, fun _ => rfl⟩, hk, .inr ⟨3, by decide, rfl, rfl, rfl⟩⟩
    · cases h2
  · have hx0 : x = 0 := hx he
    subst hx0
    rcases ho with ⟨h2, _⟩ | ⟨e', he', h2, _⟩
    · cases h2
    · injection h2 with h2
      injection h2 with h2 h3
      subst h2
      subst h3
      exact ⟨0, k', some (e, (k' : Int)), .inr ⟨rfl, 0, e, (k' : Int), ⟨0, tl, e, (k' : Int), hw, by decide, by decide, .inl ⟨he, rfl, rfl, rfl, rfl⟩⟩, .inr ⟨he, rfl, rfl⟩, hk, fun _ => rfl⟩, hk, .inr ⟨e, he, rfl, rfl, rfl⟩⟩
/-- How a number's bytes look, wherever they stand. -/
theorem encN_shape (f : Nat) : ∀ n, 0 ≤ n → n < top f → ∃ j, j ≤ f ∧ (encN f n).length = j + 1 ∧ (∀ i, i < j → 128 ≤ (encN f n).getD i 0) ∧ (encN f n).getD j 0 < 128 ∧ (0 < j → 0 < (encN f n).getD j 0) ∧ (j = f → (encN f n).getD j 0 < 2 ∨ f = 0) ∧ (f = 0 → (encN f n).getD j 0 < 2) ∧
    ∀ (zs : List Int) (k : Nat), (∀ i, i ≤ j → zs.getD (k + i) 0 = (encN f n).getD i 0) → val zs k (j + 1) = n := by
  induction f with
  | zero =>
    intro n h0 h1
    have ht : top 0 = 2 := rfl
    refine ⟨0, Nat.le_refl _, rfl, fun i hi => absurd hi (by omega), ?_, fun h => absurd h (by omega), fun _ => .inr rfl, fun _ => ?_, fun zs k h => ?_⟩
    · show n < 128; omega
    · show n < 2; omega
    · exact val_one zs k (h 0 (Nat.le_refl _)) h0 (by omega)
  | succ f ih =>
    intro n h0 h1
    have ht : top (f + 1) = 128 * top f := rfl
    rcases Int.lt_or_le n 128 with h | h
    · rw [encN_small _ h]
      refine ⟨0, Nat.zero_le _, rfl, fun i hi => absurd hi (by omega), h, fun h => absurd h (by omega), fun h => absurd h (by omega), fun h => absurd h (by omega), fun zs k hz => ?_⟩
      exact val_one zs k (hz 0 (Nat.le_refl _)) h0 h
    · rw [encN_great _ h]
      obtain ⟨j, h2, h3, h4, h5, h6, h7, h8, h9⟩ := ih (n / 128) (by omega) (by omega)
      have hd : ∀ i, ((n % 128 + 128) :: encN f (n / 128)).getD (i + 1) 0 = (encN f (n / 128)).getD i 0 := fun i => by simp
      refine ⟨j + 1, by omega, by rw [List.length_cons, h3], fun i hi => ?_, by rw [hd]; exact h5, fun _ => ?_, fun hj => .inl ?_, fun h => absurd h (by omega), fun zs k hz => ?_⟩
      · match i, hi with
        | 0, _ => show (128 : Int) ≤ n % 128 + 128; omega
        | i + 1, hi => rw [hd]; exact h4 i (by omega)
      · rw [hd]
        rcases Nat.eq_zero_or_pos j with rfl | hp
        · have hl : encN f (n / 128) = [n / 128] := by
            rcases Int.lt_or_le (n / 128) 128 with h' | h'
            · exact encN_small _ h'
            · exfalso
              cases f with
              | zero => have : top 0 = 2 := rfl; omega
              | succ f =>
                rw [encN_great _ h', List.length_cons] at h3
                have := (encN_len f (n / 128 / 128)).1
                omega
          rw [hl]
          show 0 < n / 128
          omega
        · exact h6 hp
      · rw [hd]
        rcases h7 (by omega) with h | h
        · exact h
        · exact h8 h
      · have hz0 : zs.getD k 0 = n % 128 + 128 := hz 0 (Nat.zero_le _)
        rw [val_front, hz0, h9 zs (k + 1) (fun i hi => by
          have := hz (i + 1) (by omega)
          rw [hd] at this
          rw [← this, Nat.add_assoc, Nat.add_comm 1 i])]
        show (n % 128 + 128) % 128 + 128 * (n / 128) = n
        omega
/-- A number's bytes are read as it. -/
theorem way_enc (pre post : List Int) (x : Int) (h0 : 0 ≤ x) (h1 : x ≤ 18446744073709551615) : Cd.Way (pre ++ enc x ++ post) pre.length x ((pre.length + (enc x).length : Nat) : Int) 0 0 := by
  obtain ⟨j, a1, a2, a3, a4, a5, a6, a7, a8⟩ := encN_shape 9 x h0 (by rw [top9]; omega)
  have hg : ∀ i, i ≤ j → (pre ++ enc x ++ post).getD (pre.length + i) 0 = (encN 9 x).getD i 0 := fun i hi => by
    have hl : i < (enc x).length := by show i < (encN 9 x).length; omega
    rw [List.getD_eq_getElem?_getD, List.getD_eq_getElem?_getD, List.append_assoc, List.getElem?_append_right (by omega), Nat.add_sub_cancel_left, List.getElem?_append_left hl]
    rfl
  have hlen : (enc x).length = j + 1 := a2
  refine .inr (.inr ⟨pre.length, j, rfl, by omega, by simp; omega, fun i hi => by rw [hg i (by omega)]; exact a3 i hi, by rw [hg j (Nat.le_refl _)]; exact a4, fun h => by rw [hg j (Nat.le_refl _)]; exact a5 h, fun h => ?_, (a8 _ _ hg).symm, by rw [hlen]; push_cast; omega, rfl, rfl⟩)
  rw [hg j (Nat.le_refl _)]
  have := a5 (by omega)
  rcases a6 (by omega) with h | h
  · omega
  · omega
theorem rn_enc (pre post : List Int) (x least most : Int) (h0 : 0 ≤ x) (h1 : x ≤ 18446744073709551615) (hl : least ≤ x) (hm : x ≤ most) : RN (pre ++ enc x ++ post) pre.length none least most x (pre.length + (enc x).length) none :=
  .inr ⟨rfl, _, 0, 0, ⟨x, _, 0, 0, way_enc pre post x h0 h1, h0, h1, .inr (.inr ⟨rfl, hl, hm, rfl, rfl, rfl, rfl⟩)⟩, .inl ⟨rfl, rfl, rfl⟩, by simp, fun h => absurd rfl h⟩
theorem ru_enc (pre post : List Int) (x : Int) (h0 : 0 ≤ x) (h1 : x ≤ 18446744073709551615) : RU (pre ++ enc x ++ post) pre.length none x (pre.length + (enc x).length) none :=
  .inr ⟨rfl, _, 0, 0, way_enc pre post x h0 h1, .inl ⟨rfl, rfl, rfl⟩, by simp, fun h => absurd rfl h⟩

/-- Numbers, one behind the other. -/
def encs (l : List Int) : List Int := (l.map enc).flatten
theorem encs_cons (x : Int) (l : List Int) : encs (x :: l) = enc x ++ encs l := by simp [encs]
theorem encs_app (a b : List Int) : encs (a ++ b) = encs a ++ encs b := by simp [encs]
theorem encs_len (l : List Int) : (encs l).length ≤ 10 * l.length := by
  induction l with
  | nil => exact Nat.le_refl _
  | cons x r ih =>
    have := (enc_len x).2
    rw [encs_cons, List.length_append, List.length_cons]
    omega

/-- N reads some number of any bytes. -/
theorem rn_any (zs : List Int) (hb : Bytes zs) (k : Nat) (hk : k ≤ zs.length) (f : Option (Int × Int)) (least most : Int) : ∃ x k' f', RN zs k f least most x k' f' ∧ k' ≤ zs.length ∧ (x = 0 ∨ least ≤ x ∧ x ≤ most) := by
  cases f with
  | some p => exact ⟨0, k, some p, .inl ⟨p, rfl, rfl, rfl, rfl⟩, hk, .inl rfl⟩
  | none =>
    obtain ⟨x, k', f', hr, h0, h1, ho⟩ := ru_of zs hb k hk
    rcases hr with ⟨p, h, _⟩ | ⟨_, tl, e, bad, hw, hm, hle, hx⟩
    · cases h
    rcases hm with ⟨rfl, hk', rfl⟩ | ⟨he, rfl, rfl⟩
    · rcases ho with ⟨_, h2, h3⟩ | ⟨_, _, h2, _⟩
      · by_cases hb1 : least ≤ x ∧ x ≤ most
        · exact ⟨x, k', none, .inr ⟨rfl, tl, 0, 0, ⟨x, tl, 0, bad, hw, h0, h1, .inr (.inr ⟨rfl, hb1.1, hb1.2, rfl, rfl, rfl, rfl⟩)⟩, .inl ⟨rfl, hk', rfl⟩, hle, fun h => absurd rfl h⟩, hle, .inr hb1⟩
        · exact ⟨0, k, some (3, (k : Int)), .inr ⟨rfl, 0, 3, (k : Int), ⟨x, tl, 0, bad, hw, h0, h1, .inr (.inl ⟨rfl, by omega, rfl, rfl, rfl, rfl⟩)⟩, .inr ⟨by decide, rfl, rfl⟩, hk, fun _ => rfl⟩, hk, .inl rfl⟩
      · cases h2
    · have hx0 : x = 0 := hx he
      subst hx0
      rcases ho with ⟨h2, _⟩ | ⟨e', he', h2, _⟩
      · cases h2
      · injection h2 with h2
        injection h2 with h2 h3
        subst h2
        subst h3
        exact ⟨0, k', some (e, (k' : Int)), .inr ⟨rfl, 0, e, (k' : Int), ⟨0, tl, e, (k' : Int), hw, by decide, by decide, .inl ⟨he, rfl, rfl, rfl, rfl⟩⟩, .inr ⟨he, rfl, rfl⟩, hk, fun _ => rfl⟩, hk, .inl rfl⟩


end Rm
end Go.Proofs.Ytpfdakkameifkaa
