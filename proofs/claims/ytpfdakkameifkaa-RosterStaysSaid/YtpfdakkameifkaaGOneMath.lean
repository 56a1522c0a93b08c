/-
  What is read of bytes has no other bytes: numbers, hashes, byte strings. Plain facts; no program.
  Conditions: bytes; a place among them.
-/
import Derived.Test.YtpfdakkameifkaaGHash4
namespace Go.Proofs.Ytpfdakkameifkaa
open Go.RowKit Go.Shelf
set_option linter.unusedVariables false
namespace Cd

theorem val_front (zs : List Int) (k : Nat) : ∀ m, val zs k (m + 1) = zs.getD k 0 % 128 + 128 * val zs (k + 1) m := by
  intro m
  induction m with
  | zero => simp [val]
  | succ m ih =>
    show val zs k (m + 1) + zs.getD (k + (m + 1)) 0 % 128 * 128 ^ (m + 1) = zs.getD k 0 % 128 + 128 * (val zs (k + 1) m + zs.getD (k + 1 + m) 0 % 128 * 128 ^ m)
    rw [ih, pow1, show k + 1 + m = k + (m + 1) by omega]
    generalize zs.getD (k + (m + 1)) 0 % 128 = t
    generalize (128 : Int) ^ m = p
    generalize val zs (k + 1) m = v
    have : t * (p * 128) = 128 * (t * p) := by rw [← Int.mul_assoc, Int.mul_comm]
    rw [this]
    omega
theorem val_pos (zs : List Int) (k j : Nat) (h0 : 0 < zs.getD (k + j) 0) (h1 : zs.getD (k + j) 0 < 128) : 1 ≤ val zs k (j + 1) := by
  show 1 ≤ val zs k j + zs.getD (k + j) 0 % 128 * 128 ^ j
  have h2 := (val_lt zs k j).1
  have h3 := pow0 j
  have h4 : (1 : Int) ≤ zs.getD (k + j) 0 % 128 := by omega
  have h5 : 1 * (128 : Int) ^ j ≤ zs.getD (k + j) 0 % 128 * 128 ^ j := Int.mul_le_mul_of_nonneg_right h4 (by omega)
  omega
theorem val_max (zs : List Int) (k j : Nat) (hj : j < 10) (h9 : j = 9 → zs.getD (k + j) 0 = 1) : val zs k (j + 1) ≤ 18446744073709551615 := by
  have hp : ∀ m : Fin 10, (128 : Int) ^ m.1 ≤ 9223372036854775808 := by decide
  rcases Nat.lt_or_ge j 9 with h | h
  · have h1 := (val_lt zs k (j + 1)).2
    have h2 := hp ⟨j + 1, by omega⟩
    simp only at h2
    omega
  · obtain rfl : j = 9 := by omega
    show val zs k 9 + zs.getD (k + 9) 0 % 128 * 128 ^ 9 ≤ _
    rw [h9 rfl]
    have h1 := (val_lt zs k 9).2
    have e9 : (128 : Int) ^ 9 = 9223372036854775808 := by decide
    rw [e9] at *
    omega
theorem drop_cons (zs : List Int) (k m : Nat) (hk : k < zs.length) : (zs.drop k).take (m + 1) = zs.getD k 0 :: (zs.drop (k + 1)).take m := by
  rw [List.drop_eq_getElem_cons hk, List.take_succ_cons, getD_eq _ _ hk]
/-- A number that was read has just the bytes that it was read of. -/
theorem enc_val (zs : List Int) (hb : Bytes zs) : ∀ (j f k : Nat), j ≤ f → k + j < zs.length → (∀ i, i < j → 128 ≤ zs.getD (k + i) 0) → zs.getD (k + j) 0 < 128 → (0 < j → 0 < zs.getD (k + j) 0) → encN f (val zs k (j + 1)) = (zs.drop k).take (j + 1) := by
  intro j
  induction j with
  | zero =>
    intro f k _ hk _ hl _
    have h0 := hb k
    have hl : zs.getD k 0 < 128 := hl
    have e : val zs k (0 + 1) = zs.getD k 0 := by
      rw [val_front]
      show zs.getD k 0 % 128 + 128 * 0 = _
      omega
    rw [e, encN_small _ hl, drop_cons zs k 0 (by omega)]
    simp
  | succ j ih =>
    intro f k hf hk hg hl hp
    obtain ⟨f, rfl⟩ : ∃ g, f = g + 1 := ⟨f - 1, by omega⟩
    have e : k + 1 + j = k + (j + 1) := by omega
    have hv := val_pos zs (k + 1) j (by rw [e]; exact hp (by omega)) (by rw [e]; exact hl)
    have h0 := hb k
    have h1 := hg 0 (by omega)
    rw [Nat.add_zero] at h1
    have hi := ih f (k + 1) (by omega) (by omega) (fun i hi => by rw [show k + 1 + i = k + (i + 1) by omega]; exact hg (i + 1) (by omega)) (by rw [e]; exact hl) (fun _ => by rw [e]; exact hp (by omega))
    rw [val_front, drop_cons zs k (j + 1) (by omega), encN_great f (by omega), ← hi]
    generalize val zs (k + 1) (j + 1) = v at *
    generalize zs.getD k 0 = z at *
    rw [show (z % 128 + 128 * v) % 128 + 128 = z by omega, show (z % 128 + 128 * v) / 128 = v by omega]

/-- How reading a thing comes out: its bytes stand there, or a fault at the place. -/
def Out (zs : List Int) (k : Nat) (more : List Int) (k' : Nat) (f' : Option (Int × Int)) : Prop :=
  (f' = none ∧ k' ≤ zs.length ∧ zs.take k ++ more = zs.take k') ∨ (∃ e, e ≠ 0 ∧ f' = some (e, (k : Int)) ∧ k' = k)
theorem take_more (zs : List Int) (k m : Nat) : zs.take k ++ (zs.drop k).take m = zs.take (k + m) := List.take_add.symm

theorem ru_of (zs : List Int) (hb : Bytes zs) (k : Nat) (hk : k ≤ zs.length) : ∃ x k' f', RU zs k none x k' f' ∧ 0 ≤ x ∧ x ≤ 18446744073709551615 ∧ Out zs k (enc x) k' f' := by
  obtain ⟨n, tl, e, bad, hw⟩ := way_of zs hb k
  rcases id hw with ⟨h, _⟩ | ⟨k0, hk0, _, rfl, rfl, rfl, he⟩ | ⟨k0, j, hk0, hj, hkj, hg, hl, hp, h9, rfl, rfl, rfl, rfl⟩
  · omega
  · obtain rfl : k0 = k := by omega
    have h0 : e ≠ 0 := by rcases he with ⟨rfl, _⟩ | ⟨rfl, _⟩ | ⟨rfl, _⟩ <;> decide
    exact ⟨0, k0, some (e, (k0 : Int)), .inr ⟨rfl, 0, e, k0, hw, .inr ⟨h0, rfl, rfl⟩, hk, fun _ => rfl⟩, by decide, by decide, .inr ⟨e, h0, rfl, rfl⟩⟩
  · obtain rfl : k0 = k := by omega
    refine ⟨_, k0 + j + 1, none, .inr ⟨rfl, _, 0, 0, hw, .inl ⟨rfl, by omega, rfl⟩, by omega, fun h => absurd rfl h⟩, (val_lt zs k0 (j + 1)).1, val_max zs k0 j hj h9, .inl ⟨rfl, by omega, ?_⟩⟩
    show zs.take k0 ++ encN 9 (val zs k0 (j + 1)) = _
    rw [enc_val zs hb j 9 k0 (by omega) hkj hg hl hp, take_more, Nat.add_assoc]

theorem rh_of (zs : List Int) (k : Nat) (hk : k ≤ zs.length) : ∃ hs k' f', RH zs k none hs k' f' ∧ hs.length = 32 ∧ Out zs k hs k' f' := by
  rcases Nat.lt_or_ge zs.length (k + 32) with h | h
  · exact ⟨_, k, _, .inr ⟨rfl, .inr ⟨h, rfl, rfl, rfl⟩⟩, List.length_replicate, .inr ⟨6, by decide, rfl, rfl⟩⟩
  · exact ⟨_, _, _, .inr ⟨rfl, .inl ⟨h, rfl, rfl, rfl⟩⟩, by simp; omega, .inl ⟨rfl, h, take_more zs k 32⟩⟩

theorem rb_of (zs : List Int) (hb : Bytes zs) (k : Nat) (hk : k ≤ zs.length) : ∃ ys k' f', RB zs k none 400 ys k' f' ∧ ys.length ≤ zs.length ∧ Out zs k (enc (ys.length : Int) ++ ys) k' f' := by
  obtain ⟨n, tl, e, bad, hw⟩ := way_of zs hb k
  rcases id hw with ⟨h, _⟩ | ⟨k0, hk0, _, rfl, rfl, rfl, he⟩ | ⟨k0, j, hk0, hj, hkj, hg, hl, hp, h9, rfl, rfl, rfl, rfl⟩
  · omega
  · obtain rfl : k0 = k := by omega
    have h0 : e ≠ 0 := by rcases he with ⟨rfl, _⟩ | ⟨rfl, _⟩ | ⟨rfl, _⟩ <;> decide
    exact ⟨[], k0, some (e, (k0 : Int)), .inr ⟨rfl, 0, e, k0, ⟨0, 0, e, k0, hw, by decide, by decide, .inl ⟨h0, rfl, rfl, rfl, rfl⟩⟩, .inr ⟨h0, rfl, rfl⟩, hk, fun _ => rfl⟩, by simp, .inr ⟨e, h0, rfl, rfl⟩⟩
  · obtain rfl : k0 = k := by omega
    have hv0 := (val_lt zs k0 (j + 1)).1
    have hv1 := val_max zs k0 j hj h9
    have hen := enc_val zs hb j 9 k0 (by omega) hkj hg hl hp
    rcases Int.lt_or_le 400 (val zs k0 (j + 1)) with hgt | hle
    · exact ⟨[], k0, some (4, (k0 : Int)), .inr ⟨rfl, 0, 4, k0, ⟨_, _, 0, 0, hw, hv0, hv1, .inr (.inl ⟨rfl, .inr hgt, rfl, rfl, rfl, rfl⟩)⟩, .inr ⟨by decide, rfl, rfl⟩, hk, fun _ => rfl⟩, by simp, .inr ⟨4, by decide, rfl, rfl⟩⟩
    · obtain ⟨m, hm⟩ := Int.eq_ofNat_of_zero_le hv0
      rcases Nat.lt_or_ge zs.length (k0 + j + 1 + m) with hlt | hge
      · exact ⟨[], k0, some (6, (k0 : Int)), .inr ⟨rfl, 0, 6, k0, ⟨_, _, 0, 0, hw, hv0, hv1, .inr (.inr (.inl ⟨k0 + j + 1, by omega, by omega, rfl, by decide, hle, by omega, rfl, rfl, rfl, rfl⟩))⟩, .inr ⟨by decide, rfl, rfl⟩, hk, fun _ => rfl⟩, by simp, .inr ⟨6, by decide, rfl, rfl⟩⟩
      · have hl32 : ((zs.drop (k0 + j + 1)).take m).length = m := by simp; omega
        refine ⟨(zs.drop (k0 + j + 1)).take m, k0 + j + 1 + m, none, .inr ⟨rfl, ((k0 + j + 1 + m : Nat) : Int), 0, 0, ⟨_, _, 0, 0, hw, hv0, hv1, .inr (.inr (.inr ⟨k0 + j + 1, m, by omega, hm, hge, rfl, by decide, hle, rfl, rfl, rfl, rfl⟩))⟩, .inl ⟨rfl, rfl, rfl⟩, hge, fun h => absurd rfl h⟩, by rw [hl32]; omega, .inl ⟨rfl, hge, ?_⟩⟩
        rw [hl32, ← take_more zs (k0 + j + 1) m, ← List.append_assoc]
        congr 1
        show zs.take k0 ++ encN 9 (m : Int) = _
        rw [← hm, hen, take_more, Nat.add_assoc]
end Cd
end Go.Proofs.Ytpfdakkameifkaa
