/-
  What is read as a vote of any bytes: what they say, or a fault; and that what is read of a vote's own bytes is the vote. No program, no condition.
-/
import Derived.Test.YtgalhpejihmhkaaDoorGZ
import Derived.Test.YtgalhpejihmhkaaDoorGV
namespace Go.Proofs.YtgalhpejihmhkaaDoor
open Go.RowKit Go.Shelf
set_option linter.unusedVariables false
namespace Vt
open Cd

/-- N reads some number of any bytes. -/
theorem rn_of (zs : List Int) (hb : Bytes zs) (k : Nat) (hk : k ≤ zs.length) (least most : Int) : ∃ x k' f', RN zs k none least most x k' f' ∧ k' ≤ zs.length ∧ ((f' = none ∧ least ≤ x ∧ x ≤ most ∧ zs.take k ++ enc x = zs.take k') ∨ (∃ e, e ≠ 0 ∧ f' = some (e, (k : Int)) ∧ k' = k ∧ x = 0)) := by
  obtain ⟨x, k', f', hr, h0, h1, ho⟩ := ru_of zs hb k hk
  rcases hr with ⟨p, h, _⟩ | ⟨_, tl, e, bad, hw, hm, hle, hx⟩
  · cases h
  rcases hm with ⟨rfl, hk', rfl⟩ | ⟨he, rfl, rfl⟩
  · rcases ho with ⟨_, h2, h3⟩ | ⟨_, _, h2, _⟩
    · by_cases hb1 : least ≤ x ∧ x ≤ most
      · exact ⟨x, k', none, .inr ⟨rfl, tl, 0, 0, ⟨x, tl, 0, bad, hw, h0, h1, .inr (.inr ⟨rfl, hb1.1, hb1.2, rfl, rfl, rfl, rfl⟩)⟩, .inl ⟨rfl, hk', rfl⟩, hle, fun h => absurd rfl h⟩, hle, .inl ⟨rfl, hb1.1, hb1.2, h3⟩⟩
      · refine ⟨0, k, some (3, (k : Int)), .inr ⟨rfl, 0, 3, (k : Int), ⟨x, tl, 0, bad, hw, h0, h1, .inr (.inl ⟨rfl, by omega, rfl, rfl, rfl, rfl⟩)⟩, .inr ⟨by decide, rfl, rfl⟩, hk, fun _ => rfl⟩, hk, .inr ⟨3, by decide, rfl, rfl, rfl⟩⟩
    · cases h2
  · have hx0 : x = 0 := hx he
    subst hx0
    rcases ho with ⟨h2, _⟩ | ⟨e', he', h2, _⟩
    · cases h2
    · injection h2 with h2
      injection h2 with h2 h3
      subst h2
      subst h3
      exact ⟨0, k', some (e, (k' : Int)), .inr ⟨rfl, 0, e, (k' : Int), ⟨0, tl, e, (k' : Int), hw, by decide, by decide, .inl ⟨he, rfl, rfl, rfl, rfl⟩⟩, .inr ⟨he, rfl, rfl⟩, hk, fun _ => rfl⟩, hk, .inr ⟨e, he, rfl, rfl, rfl⟩⟩
theorem n_fault {zs : List Int} {k : Nat} {p : Int × Int} : ∀ least most : Int, RN zs k (some p) least most 0 k (some p) := fun _ _ => rn_f
/-- What any bytes are read as: a fault, or a vote whose bytes they are. -/
theorem att_ex (zs : List Int) (hb : Bytes zs) : ∃ v s t tag hs fe, attRd zs v s t tag hs fe ∧ (fe.1 ≠ 0 ∨ (fe = (0, 0) ∧ (0 ≤ v ∧ v ≤ 31) ∧ (0 ≤ s ∧ s ≤ 4294967296) ∧ (0 ≤ t ∧ t ≤ 4294967296) ∧ (0 ≤ tag ∧ tag ≤ 18446744073709551615) ∧ hs.length = 32 ∧ zs = enc 1 ++ enc v ++ enc s ++ enc t ++ hs ++ enc tag)) := by
  obtain ⟨x1, k1, f1, r1, l1, ⟨rfl, a1, a2, e1⟩ | ⟨e, he, rfl, rfl, rfl⟩⟩ := rn_of zs hb 0 (Nat.zero_le _) 1 1
  case inr => exact ⟨0, 0, 0, 0, Y0, (e, 0), ⟨0, 0, _, 0, _, 0, _, 0, _, 0, _, 0, _, r1, rn_f, rn_f, rn_f, rh_f, ru_f, rfl⟩, .inl he⟩
  obtain ⟨v, k2, f2, r2, l2, ⟨rfl, b1, b2, e2⟩ | ⟨e, he, rfl, rfl, rfl⟩⟩ := rn_of zs hb k1 l1 0 31
  case inr => exact ⟨0, 0, 0, 0, Y0, (e, (k2 : Int)), ⟨x1, k2, _, k2, _, k2, _, k2, _, k2, _, k2, _, r1, r2, rn_f, rn_f, rh_f, ru_f, rfl⟩, .inl he⟩
  obtain ⟨s, k3, f3, r3, l3, ⟨rfl, c1, c2, e3⟩ | ⟨e, he, rfl, rfl, rfl⟩⟩ := rn_of zs hb k2 l2 0 4294967296
  case inr => exact ⟨v, 0, 0, 0, Y0, (e, (k3 : Int)), ⟨x1, k1, _, k3, _, k3, _, k3, _, k3, _, k3, _, r1, r2, r3, rn_f, rh_f, ru_f, rfl⟩, .inl he⟩
  obtain ⟨t, k4, f4, r4, l4, ⟨rfl, d1, d2, e4⟩ | ⟨e, he, rfl, rfl, rfl⟩⟩ := rn_of zs hb k3 l3 0 4294967296
  case inr => exact ⟨v, s, 0, 0, Y0, (e, (k4 : Int)), ⟨x1, k1, _, k2, _, k4, _, k4, _, k4, _, k4, _, r1, r2, r3, r4, rh_f, ru_f, rfl⟩, .inl he⟩
  obtain ⟨hs, k5, f5, r5, g1, ⟨rfl, l5, e5⟩ | ⟨e, he, rfl, rfl⟩⟩ := rh_of zs k4 l4
  case inr => exact ⟨v, s, t, 0, hs, (e, (k5 : Int)), ⟨x1, k1, _, k2, _, k3, _, k5, _, k5, _, k5, _, r1, r2, r3, r4, r5, ru_f, rfl⟩, .inl he⟩
  obtain ⟨tag, k6, f6, r6, h0, h1, ⟨rfl, l6, e6⟩ | ⟨e, he, rfl, rfl⟩⟩ := ru_of zs hb k5 l5
  case inr => exact ⟨v, s, t, tag, hs, (e, (k6 : Int)), ⟨x1, k1, _, k2, _, k3, _, k4, _, k6, _, k6, _, r1, r2, r3, r4, r5, r6, rfl⟩, .inl he⟩
  refine ⟨v, s, t, tag, hs, _, ⟨x1, k1, _, k2, _, k3, _, k4, _, k5, _, k6, _, r1, r2, r3, r4, r5, r6, rfl⟩, ?_⟩
  unfold endOf
  by_cases hk : k6 < zs.length
  · exact .inl (by simp [hk])
  · refine .inr ⟨by simp [hk], ⟨b1, b2⟩, ⟨c1, c2⟩, ⟨d1, d2⟩, ⟨h0, h1⟩, g1, ?_⟩
    obtain rfl : x1 = 1 := by omega
    have e7 : zs.take k6 = zs := List.take_of_length_le (by omega)
    rw [← e7, ← e6, ← e5, ← e4, ← e3, ← e2, ← e1]
    simp
/-- How a number's bytes look, wherever they stand. -/
theorem encN_shape (f : Nat) : ∀ n, 0 ≤ n → n < top f → ∃ j, j ≤ f ∧ (encN f n).length = j + 1 ∧ (∀ i, i < j → 128 ≤ (encN f n).getD i 0) ∧ (encN f n).getD j 0 < 128 ∧ (0 < j → 0 < (encN f n).getD j 0) ∧ (j = f → (encN f n).getD j 0 < 2 ∨ f = 0) ∧ (f = 0 → (encN f n).getD j 0 < 2) ∧
    ∀ (zs : List Int) (k : Nat), (∀ i, i ≤ j → zs.getD (k + i) 0 = (encN f n).getD i 0) → val zs k (j + 1) = n := by
  induction f with
  | zero =>
    intro n h0 h1
    have ht : top 0 = 2 := rfl
    refine ⟨0, Nat.le_refl _, rfl, fun i hi => absurd hi (by omega), ?_, fun h => absurd h (by omega), fun _ => .inr rfl, fun _ => ?_, fun zs k h => ?_⟩
    · show n < 128; omega
    · show n < 2; omega
    · exact val_one zs k (h 0 (Nat.le_refl _)) h0 (by omega)
  | succ f ih =>
    intro n h0 h1
    have ht : top (f + 1) = 128 * top f := rfl
    rcases Int.lt_or_le n 128 with h | h
    · rw [encN_small _ h]
      refine ⟨0, Nat.zero_le _, rfl, fun i hi => absurd hi (by omega), h, fun h => absurd h (by omega), fun h => absurd h (by omega), fun h => absurd h (by omega), fun zs k hz => ?_⟩
      exact val_one zs k (hz 0 (Nat.le_refl _)) h0 h
    · rw [encN_great _ h]
      obtain ⟨j, h2, h3, h4, h5, h6, h7, h8, h9⟩ := ih (n / 128) (by omega) (by omega)
      have hd : ∀ i, ((n % 128 + 128) :: encN f (n / 128)).getD (i + 1) 0 = (encN f (n / 128)).getD i 0 := fun i => by simp
      refine ⟨j + 1, by omega, by rw [List.length_cons, h3], fun i hi => ?_, by rw [hd]; exact h5, fun _ => ?_, fun hj => .inl ?_, fun h => absurd h (by omega), fun zs k hz => ?_⟩
      · match i, hi with
        | 0, _ => show (128 : Int) ≤ n % 128 + 128; omega
        | i + 1, hi => rw [hd]; exact h4 i (by omega)
      · rw [hd]
        rcases Nat.eq_zero_or_pos j with rfl | hp
        · have hl : encN f (n / 128) = [n / 128] := by
            rcases Int.lt_or_le (n / 128) 128 with h' | h'
            · exact encN_small _ h'
            · exfalso
              cases f with
              | zero => have : top 0 = 2 := rfl; omega
              | succ f =>
                rw [encN_great _ h', List.length_cons] at h3
                have := (encN_len f (n / 128 / 128)).1
                omega
          rw [hl]
          show 0 < n / 128
          omega
        · exact h6 hp
      · rw [hd]
        rcases h7 (by omega) with h | h
        · exact h
        · exact h8 h
      · have hz0 : zs.getD k 0 = n % 128 + 128 := hz 0 (Nat.zero_le _)
        rw [val_front, hz0, h9 zs (k + 1) (fun i hi => by
          have := hz (i + 1) (by omega)
          rw [hd] at this
          rw [← this, Nat.add_assoc, Nat.add_comm 1 i])]
        show (n % 128 + 128) % 128 + 128 * (n / 128) = n
        omega
/-- A number's bytes are read as it. -/
theorem way_enc (pre post : List Int) (x : Int) (h0 : 0 ≤ x) (h1 : x ≤ 18446744073709551615) : Cd.Way (pre ++ enc x ++ post) pre.length x ((pre.length + (enc x).length : Nat) : Int) 0 0 := by
  obtain ⟨j, a1, a2, a3, a4, a5, a6, a7, a8⟩ := encN_shape 9 x h0 (by rw [top9]; omega)
  have hg : ∀ i, i ≤ j → (pre ++ enc x ++ post).getD (pre.length + i) 0 = (encN 9 x).getD i 0 := fun i hi => by
    have hl : i < (enc x).length := by show i < (encN 9 x).length; omega
    rw [List.getD_eq_getElem?_getD, List.getD_eq_getElem?_getD, List.append_assoc, List.getElem?_append_right (by omega), Nat.add_sub_cancel_left, List.getElem?_append_left hl]
    rfl
  have hlen : (enc x).length = j + 1 := a2
  refine .inr (.inr ⟨pre.length, j, rfl, by omega, by simp; omega, fun i hi => by rw [hg i (by omega)]; exact a3 i hi, by rw [hg j (Nat.le_refl _)]; exact a4, fun h => by rw [hg j (Nat.le_refl _)]; exact a5 h, fun h => ?_, (a8 _ _ hg).symm, by rw [hlen]; push_cast; omega, rfl, rfl⟩)
  rw [hg j (Nat.le_refl _)]
  have := a5 (by omega)
  rcases a6 (by omega) with h | h
  · omega
  · omega
theorem rn_enc (pre post : List Int) (x least most : Int) (h0 : 0 ≤ x) (h1 : x ≤ 18446744073709551615) (hl : least ≤ x) (hm : x ≤ most) : RN (pre ++ enc x ++ post) pre.length none least most x (pre.length + (enc x).length) none :=
  .inr ⟨rfl, _, 0, 0, ⟨x, _, 0, 0, way_enc pre post x h0 h1, h0, h1, .inr (.inr ⟨rfl, hl, hm, rfl, rfl, rfl, rfl⟩)⟩, .inl ⟨rfl, rfl, rfl⟩, by simp, fun h => absurd rfl h⟩
theorem rn_enc_no (pre post : List Int) (x least most : Int) (h0 : 0 ≤ x) (h1 : x ≤ 18446744073709551615) (hb : x < least ∨ most < x) : RN (pre ++ enc x ++ post) pre.length none least most 0 pre.length (some (3, (pre.length : Int))) :=
  .inr ⟨rfl, 0, 3, _, ⟨x, _, 0, 0, way_enc pre post x h0 h1, h0, h1, .inr (.inl ⟨rfl, hb, rfl, rfl, rfl, rfl⟩)⟩, .inr ⟨by decide, rfl, rfl⟩, by simp, fun _ => rfl⟩
theorem ru_enc (pre post : List Int) (x : Int) (h0 : 0 ≤ x) (h1 : x ≤ 18446744073709551615) : RU (pre ++ enc x ++ post) pre.length none x (pre.length + (enc x).length) none :=
  .inr ⟨rfl, _, 0, 0, way_enc pre post x h0 h1, .inl ⟨rfl, rfl, rfl⟩, by simp, fun h => absurd rfl h⟩
theorem rh_mid (pre post hs : List Int) (h : hs.length = 32) : RH (pre ++ hs ++ post) pre.length none hs (pre.length + 32) none :=
  .inr ⟨rfl, .inl ⟨by simp; omega, by rw [List.append_assoc, List.drop_left, List.take_append_of_le_length (by omega), List.take_of_length_le (by omega)], rfl, rfl⟩⟩
/-- A vote's own bytes are read as the vote. -/
theorem att_own (v s t tag : Int) (hs : List Int) (b1 : 0 ≤ v ∧ v ≤ 31) (b2 : 0 ≤ s ∧ s ≤ 4294967296) (b3 : 0 ≤ t ∧ t ≤ 4294967296) (bt : 0 ≤ tag ∧ tag ≤ 18446744073709551615) (h32 : hs.length = 32) : attRd (enc 1 ++ enc v ++ enc s ++ enc t ++ hs ++ enc tag) v s t tag hs (0, 0) := by
  have r1 := rn_enc [] (enc v ++ enc s ++ enc t ++ hs ++ enc tag) 1 1 1 (by decide) (by decide) (by decide) (by decide)
  have r2 := rn_enc (enc 1) (enc s ++ enc t ++ hs ++ enc tag) v 0 31 b1.1 (by omega) b1.1 b1.2
  have r3 := rn_enc (enc 1 ++ enc v) (enc t ++ hs ++ enc tag) s 0 4294967296 b2.1 (by omega) b2.1 b2.2
  have r4 := rn_enc (enc 1 ++ enc v ++ enc s) (hs ++ enc tag) t 0 4294967296 b3.1 (by omega) b3.1 b3.2
  have r5 := rh_mid (enc 1 ++ enc v ++ enc s ++ enc t) (enc tag) hs h32
  have r6 := ru_enc (enc 1 ++ enc v ++ enc s ++ enc t ++ hs) [] tag bt.1 bt.2
  refine ⟨1, (enc 1).length, none, (enc 1 ++ enc v).length, none, (enc 1 ++ enc v ++ enc s).length, none, (enc 1 ++ enc v ++ enc s ++ enc t).length, none, (enc 1 ++ enc v ++ enc s ++ enc t ++ hs).length, none, (enc 1 ++ enc v ++ enc s ++ enc t ++ hs ++ enc tag).length, none, ?_, ?_, ?_, ?_, ?_, ?_, ?_⟩
  · simpa only [List.nil_append, List.length_nil, Nat.zero_add, List.append_assoc, List.length_append, Nat.add_assoc, h32] using r1
  · simpa only [List.append_assoc, List.length_append, Nat.add_assoc, h32] using r2
  · simpa only [List.append_assoc, List.length_append, Nat.add_assoc, h32] using r3
  · simpa only [List.append_assoc, List.length_append, Nat.add_assoc, h32] using r4
  · simpa only [List.append_assoc, List.length_append, Nat.add_assoc, h32] using r5
  · simpa only [List.append_nil, List.append_assoc, List.length_append, Nat.add_assoc, h32] using r6
  · unfold endOf
    simp [h32]
theorem prop_ex (zs : List Int) (hb : Bytes zs) : ∃ v s tag hs fe, propRd zs v s tag hs fe ∧ (fe.1 ≠ 0 ∨ (fe = (0, 0) ∧ (0 ≤ v ∧ v ≤ 31) ∧ (1 ≤ s ∧ s ≤ 4294967296) ∧ (0 ≤ tag ∧ tag ≤ 18446744073709551615) ∧ hs.length = 32 ∧ zs = enc 2 ++ enc v ++ enc s ++ hs ++ enc tag)) := by
  obtain ⟨x1, k1, f1, r1, l1, ⟨rfl, a1, a2, e1⟩ | ⟨e, he, rfl, rfl, rfl⟩⟩ := rn_of zs hb 0 (Nat.zero_le _) 2 2
  case inr => exact ⟨0, 0, 0, Y0, (e, 0), ⟨0, 0, _, 0, _, 0, _, 0, _, 0, _, r1, rn_f, rn_f, rh_f, ru_f, rfl⟩, .inl he⟩
  obtain ⟨v, k2, f2, r2, l2, ⟨rfl, b1, b2, e2⟩ | ⟨e, he, rfl, rfl, rfl⟩⟩ := rn_of zs hb k1 l1 0 31
  case inr => exact ⟨0, 0, 0, Y0, (e, (k2 : Int)), ⟨x1, k2, _, k2, _, k2, _, k2, _, k2, _, r1, r2, rn_f, rh_f, ru_f, rfl⟩, .inl he⟩
  obtain ⟨s, k3, f3, r3, l3, ⟨rfl, c1, c2, e3⟩ | ⟨e, he, rfl, rfl, rfl⟩⟩ := rn_of zs hb k2 l2 1 4294967296
  case inr => exact ⟨v, 0, 0, Y0, (e, (k3 : Int)), ⟨x1, k1, _, k3, _, k3, _, k3, _, k3, _, r1, r2, r3, rh_f, ru_f, rfl⟩, .inl he⟩
  obtain ⟨hs, k5, f5, r5, g1, ⟨rfl, l5, e5⟩ | ⟨e, he, rfl, rfl⟩⟩ := rh_of zs k3 l3
  case inr => exact ⟨v, s, 0, hs, (e, (k5 : Int)), ⟨x1, k1, _, k2, _, k5, _, k5, _, k5, _, r1, r2, r3, r5, ru_f, rfl⟩, .inl he⟩
  obtain ⟨tag, k6, f6, r6, h0, h1, ⟨rfl, l6, e6⟩ | ⟨e, he, rfl, rfl⟩⟩ := ru_of zs hb k5 l5
  case inr => exact ⟨v, s, tag, hs, (e, (k6 : Int)), ⟨x1, k1, _, k2, _, k3, _, k6, _, k6, _, r1, r2, r3, r5, r6, rfl⟩, .inl he⟩
  refine ⟨v, s, tag, hs, _, ⟨x1, k1, _, k2, _, k3, _, k5, _, k6, _, r1, r2, r3, r5, r6, rfl⟩, ?_⟩
  unfold endOf
  by_cases hk : k6 < zs.length
  · exact .inl (by simp [hk])
  · refine .inr ⟨by simp [hk], ⟨b1, b2⟩, ⟨c1, c2⟩, ⟨h0, h1⟩, g1, ?_⟩
    obtain rfl : x1 = 2 := by omega
    have e7 : zs.take k6 = zs := List.take_of_length_le (by omega)
    rw [← e7, ← e6, ← e5, ← e3, ← e2, ← e1]
    simp
/-- A block vote's own bytes are read as it. -/
theorem prop_own (v s tag : Int) (hs : List Int) (b1 : 0 ≤ v ∧ v ≤ 31) (b2 : 1 ≤ s ∧ s ≤ 4294967296) (bt : 0 ≤ tag ∧ tag ≤ 18446744073709551615) (h32 : hs.length = 32) : propRd (enc 2 ++ enc v ++ enc s ++ hs ++ enc tag) v s tag hs (0, 0) := by
  have r1 := rn_enc [] (enc v ++ enc s ++ hs ++ enc tag) 2 2 2 (by decide) (by decide) (by decide) (by decide)
  have r2 := rn_enc (enc 2) (enc s ++ hs ++ enc tag) v 0 31 b1.1 (by omega) b1.1 b1.2
  have r3 := rn_enc (enc 2 ++ enc v) (hs ++ enc tag) s 1 4294967296 (by omega) (by omega) b2.1 b2.2
  have r5 := rh_mid (enc 2 ++ enc v ++ enc s) (enc tag) hs h32
  have r6 := ru_enc (enc 2 ++ enc v ++ enc s ++ hs) [] tag bt.1 bt.2
  refine ⟨2, (enc 2).length, none, (enc 2 ++ enc v).length, none, (enc 2 ++ enc v ++ enc s).length, none, (enc 2 ++ enc v ++ enc s ++ hs).length, none, (enc 2 ++ enc v ++ enc s ++ hs ++ enc tag).length, none, ?_, ?_, ?_, ?_, ?_, ?_⟩
  · simpa only [List.nil_append, List.length_nil, Nat.zero_add, List.append_assoc, List.length_append, Nat.add_assoc, h32] using r1
  · simpa only [List.append_assoc, List.length_append, Nat.add_assoc, h32] using r2
  · simpa only [List.append_assoc, List.length_append, Nat.add_assoc, h32] using r3
  · simpa only [List.append_assoc, List.length_append, Nat.add_assoc, h32] using r5
  · simpa only [List.append_nil, List.append_assoc, List.length_append, Nat.add_assoc, h32] using r6
  · unfold endOf
    simp [h32]
/-- Bytes of one kind are no bytes of the other. -/
theorem prop_other (post : List Int) : propRd (enc 1 ++ post) 0 0 0 Y0 (3, 0) :=
  ⟨0, 0, some (3, 0), 0, some (3, 0), 0, some (3, 0), 0, some (3, 0), 0, some (3, 0), rn_enc_no [] post 1 2 2 (by decide) (by decide) (.inl (by decide)), rn_f, rn_f, rh_f, ru_f, rfl⟩
theorem att_other (post : List Int) : attRd (enc 2 ++ post) 0 0 0 0 Y0 (3, 0) :=
  ⟨0, 0, some (3, 0), 0, some (3, 0), 0, some (3, 0), 0, some (3, 0), 0, some (3, 0), 0, some (3, 0), rn_enc_no [] post 2 1 1 (by decide) (by decide) (.inr (by decide)), rn_f, rn_f, rn_f, rh_f, ru_f, rfl⟩
end Vt
end Go.Proofs.YtgalhpejihmhkaaDoor
