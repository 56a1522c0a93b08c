/-
  A record's bytes are read as the record, and no other bytes are: no walk. No condition.
-/
import Derived.Test.YtpohcdfmkcfonaaGreatDoorPK
import Derived.Test.YtpohcdfmkcfonaaGreatDoorGPs5
namespace Go.Proofs.YtpohcdfmkcfonaaGreatDoor
open Go.RowKit Go.Shelf
set_option linter.unusedVariables false
namespace Pd
open Cd
open Pm (val_one)

/-- N reads some number of any bytes. -/
theorem rn_of (zs : List Int) (hb : Bytes zs) (k : Nat) (hk : k ≤ zs.length) (least most : Int) : ∃ x k' f', RN zs k none least most x k' f' ∧ k' ≤ zs.length ∧ ((f' = none ∧ least ≤ x ∧ x ≤ most ∧ zs.take k ++ enc x = zs.take k') ∨ (∃ e, e ≠ 0 ∧ f' = some (e, (k : Int)) ∧ k' = k ∧ x = 0)) := by
  obtain ⟨x, k', f', hr, h0, h1, ho⟩ := ru_of zs hb k hk
  rcases hr with ⟨p, h, _⟩ | ⟨_, tl, e, bad, hw, hm, hle, hx⟩
  · cases h
  rcases hm with ⟨rfl, hk', rfl⟩ | ⟨he, rfl, rfl⟩
  · rcases ho with ⟨_, h2, h3⟩ | ⟨_, _, h2, _⟩
    · by_cases hb1 : least ≤ x ∧ x ≤ most
      · exact ⟨x, k', none, .inr ⟨rfl, tl, 0, 0, ⟨x, tl, 0, bad, hw, h0, h1, .inr (.inr ⟨rfl, hb1.1, hb1.2, rfl, rfl, rfl, rfl⟩)⟩, .inl ⟨rfl, hk', rfl⟩, hle, fun h => absurd rfl h⟩, hle, .inl ⟨rfl, hb1.1, hb1.2, h3⟩⟩
      · refine ⟨0, k, some (3, (k : Int)), .inr ⟨rfl, 0, 3, (k : Int), ⟨x, tl, 0, bad, hw, h0, h1, .inr (.inl ⟨rfl, by omega, rfl, rfl, rfl, rfl⟩)⟩, .inr ⟨by decide, rfl, rfl⟩, hk, fun _ => rfl⟩, hk, .inr ⟨3, by decide, rfl, rfl, rfl⟩⟩
    · cases h2
  · have hx0 : x = 0 := hx he
    subst hx0
    rcases ho with ⟨h2, _⟩ | ⟨e', he', h2, _⟩
    · cases h2
    · injection h2 with h2
      injection h2 with h2 h3
      subst h2
      subst h3
      exact ⟨0, k', some (e, (k' : Int)), .inr ⟨rfl, 0, e, (k' : Int), ⟨0, tl, e, (k' : Int), hw, by decide, by decide, .inl ⟨he, rfl, rfl, rfl, rfl⟩⟩, .inr ⟨he, rfl, rfl⟩, hk, fun _ => rfl⟩, hk, .inr ⟨e, he, rfl, rfl, rfl⟩⟩
/-- How a number's bytes look, wherever they stand. -/
theorem encN_shape (f : Nat) : ∀ n, 0 ≤ n → n < top f → ∃ j, j ≤ f ∧ (encN f n).length = j + 1 ∧ (∀ i, i < j → 128 ≤ (encN f n).getD i 0) ∧ (encN f n).getD j 0 < 128 ∧ (0 < j → 0 < (encN f n).getD j 0) ∧ (j = f → (encN f n).getD j 0 < 2 ∨ f = 0) ∧ (f = 0 → (encN f n).getD j 0 < 2) ∧
    ∀ (zs : List Int) (k : Nat), (∀ i, i ≤ j → zs.getD (k + i) 0 = (encN f n).getD i 0) → val zs k (j + 1) = n := by
  induction f with
  | zero =>
    intro n h0 h1
    have ht : top 0 = 2 := rfl
    refine ⟨0, Nat.le_refl _, rfl, fun i hi => absurd hi (by omega), ?_, fun h => absurd h (by omega), fun _ => .inr rfl, fun _ => ?_, fun zs k h => ?_⟩
    · show n < 128; omega
    · show n < 2; omega
    · exact val_one zs k (h 0 (Nat.le_refl _)) h0 (by omega)
  | succ f ih =>
    intro n h0 h1
    have ht : top (f + 1) = 128 * top f := rfl
    rcases Int.lt_or_le n 128 with h | h
    · rw [encN_small _ h]
      refine ⟨0, Nat.zero_le _, rfl, fun i hi => absurd hi (by omega), h, fun h => absurd h (by omega), fun h => absurd h (by omega), fun h => absurd h (by omega), fun zs k hz => ?_⟩
      exact val_one zs k (hz 0 (Nat.le_refl _)) h0 h
    · rw [encN_great _ h]
      obtain ⟨j, h2, h3, h4, h5, h6, h7, h8, h9⟩ := ih (n / 128) (by omega) (by omega)
      have hd : ∀ i, ((n % 128 + 128) :: encN f (n / 128)).getD (i + 1) 0 = (encN f (n / 128)).getD i 0 := fun i => by simp
      refine ⟨j + 1, by omega, by rw [List.length_cons, h3], fun i hi => ?_, by rw [hd]; exact h5, fun _ => ?_, fun hj => .inl ?_, fun h => absurd h (by omega), fun zs k hz => ?_⟩
      · match i, hi with
        | 0, _ => show (128 : Int) ≤ n % 128 + 128; omega
        | i + 1, hi => rw [hd]; exact h4 i (by omega)
      · rw [hd]
        rcases Nat.eq_zero_or_pos j with rfl | hp
        · have hl : encN f (n / 128) = [n / 128] := by
            rcases Int.lt_or_le (n / 128) 128 with h' | h'
            · exact encN_small _ h'
            · exfalso
              cases f with
              | zero => have : top 0 = 2 := rfl; omega
              | succ f =>
                rw [encN_great _ h', List.length_cons] at h3
                have := (encN_len f (n / 128 / 128)).1
                omega
          rw [hl]
          show 0 < n / 128
          omega
        · exact h6 hp
      · rw [hd]
        rcases h7 (by omega) with h | h
        · exact h
        · exact h8 h
      · have hz0 : zs.getD k 0 = n % 128 + 128 := hz 0 (Nat.zero_le _)
        rw [val_front, hz0, h9 zs (k + 1) (fun i hi => by
          have := hz (i + 1) (by omega)
          rw [hd] at this
          rw [← this, Nat.add_assoc, Nat.add_comm 1 i])]
        show (n % 128 + 128) % 128 + 128 * (n / 128) = n
        omega
/-- A number's bytes are read as it. -/
theorem way_enc (pre post : List Int) (x : Int) (h0 : 0 ≤ x) (h1 : x ≤ 18446744073709551615) : Cd.Way (pre ++ enc x ++ post) pre.length x ((pre.length + (enc x).length : Nat) : Int) 0 0 := by
  obtain ⟨j, a1, a2, a3, a4, a5, a6, a7, a8⟩ := encN_shape 9 x h0 (by rw [top9]; omega)
  have hg : ∀ i, i ≤ j → (pre ++ enc x ++ post).getD (pre.length + i) 0 = (encN 9 x).getD i 0 := fun i hi => by
    have hl : i < (enc x).length := by show i < (encN 9 x).length; omega
    rw [List.getD_eq_getElem?_getD, List.getD_eq_getElem?_getD, List.append_assoc, List.getElem?_append_right (by omega), Nat.add_sub_cancel_left, List.getElem?_append_left hl]
    rfl
  have hlen : (enc x).length = j + 1 := a2
  refine .inr (.inr ⟨pre.length, j, rfl, by omega, by simp; omega, fun i hi => by rw [hg i (by omega)]; exact a3 i hi, by rw [hg j (Nat.le_refl _)]; exact a4, fun h => by rw [hg j (Nat.le_refl _)]; exact a5 h, fun h => ?_, (a8 _ _ hg).symm, by rw [hlen]; push_cast; omega, rfl, rfl⟩)
  rw [hg j (Nat.le_refl _)]
  have := a5 (by omega)
  rcases a6 (by omega) with h | h
  · omega
  · omega
theorem rn_enc (pre post : List Int) (x least most : Int) (h0 : 0 ≤ x) (h1 : x ≤ 18446744073709551615) (hl : least ≤ x) (hm : x ≤ most) : RN (pre ++ enc x ++ post) pre.length none least most x (pre.length + (enc x).length) none :=
  .inr ⟨rfl, _, 0, 0, ⟨x, _, 0, 0, way_enc pre post x h0 h1, h0, h1, .inr (.inr ⟨rfl, hl, hm, rfl, rfl, rfl, rfl⟩)⟩, .inl ⟨rfl, rfl, rfl⟩, by simp, fun h => absurd rfl h⟩
end Pd
namespace Pm
open Kk

/-- A record's own bytes, from the i-th field on. -/
def encF (x : Nat → Int) : Nat → Nat → List Int
  | _, 0 => []
  | k, n + 1 => Cd.enc (x k) ++ encF x (k + 1) n
theorem encF_snoc (x : Nat → Int) : ∀ (n k : Nat), encF x k (n + 1) = encF x k n ++ Cd.enc (x (k + n))
  | 0, k => by simp [encF]
  | n + 1, k => by
    show Cd.enc (x k) ++ encF x (k + 1) (n + 1) = (Cd.enc (x k) ++ encF x (k + 1) n) ++ _
    rw [encF_snoc x n (k + 1), List.append_assoc, show k + 1 + n = k + (n + 1) by omega]
theorem encs_F (x : Nat → Int) : ∀ n, encs x n = encF x 0 n
  | 0 => rfl
  | n + 1 => by
    rw [encF_snoc, Nat.zero_add, ← encs_F x n]
    rfl
theorem encs_split (x : Nat → Int) : ∀ (n k : Nat), encs x (k + n) = encs x k ++ encF x k n
  | 0, k => by simp [encF]
  | n + 1, k => by
    rw [show k + (n + 1) = (k + 1) + n by omega, encs_split x n (k + 1)]
    show encs x k ++ Cd.enc (x k) ++ encF x (k + 1) n = encs x k ++ (Cd.enc (x k) ++ encF x (k + 1) n)
    rw [List.append_assoc]
theorem preX_order {x : Nat → Int} (hx : Kinds x) (hc : Chk x 0 0) (k : Nat) : preX x (k + 1) 1 ≤ preX x (k + 1) 0 := by
  unfold preX
  rw [if_pos (show 0 < k + 1 by omega)]
  by_cases hk1 : 1 < k + 1
  · rw [if_pos hk1]
    exact hc.ok.2
  · rw [if_neg hk1]
    exact (ok_b hx hc 0 (by omega)).1
theorem to_own {x : Nat → Int} (hx : Kinds x) (hc : Chk x 0 0) : ∀ (n k : Nat), k + n = 11 → To (encs x 11) (preX x 11) (encs x 11).length none n (preX x k) (encs x k).length none := by
  intro n
  induction n with
  | zero =>
    intro k hk
    obtain rfl : k = 11 := by omega
    exact ⟨rfl, rfl, rfl⟩
  | succ n ih =>
    intro k hk
    have hb := okF_b hx k (by omega) (hc.ok.1 k (by omega))
    have hl := lohi k (by omega)
    have hs : encs x 11 = encs x k ++ Cd.enc (x k) ++ encF x (k + 1) n := by
      have := encs_split x (n + 1) k
      rw [hk] at this
      rw [this]
      show encs x k ++ (Cd.enc (x k) ++ encF x (k + 1) n) = _
      rw [List.append_assoc]
    have hr := Pd.rn_enc (encs x k) (encF x (k + 1) n) (x k) (lo k) (hi k) (by omega) (by omega) hb.1 hb.2
    rw [← hs] at hr
    refine ⟨x k, (encs x k).length + (Cd.enc (x k)).length, none, ?_, .inr ?_, ?_⟩
    · rw [show 10 - n = k by omega]
      exact hr
    · rw [show 10 - n = k by omega]
      exact hb
    · rw [show 10 - n = k by omega, preX_next, if_pos (preX_order hx hc k)]
      have := ih (k + 1) (by omega)
      rw [show (encs x (k + 1)).length = (encs x k).length + (Cd.enc (x k)).length by show (encs x k ++ Cd.enc (x k)).length = _; rw [List.length_append]] at this
      exact this
/-- A record's own bytes are read as the record. -/
theorem bytes_back {x : Nat → Int} (hx : Kinds x) (hc : Chk x 0 0) : To (encs x 11) (preX x 11) (encs x 11).length none 11 zr 0 none := to_own hx hc 11 0 rfl

/-- What any bytes are read as: a fault, or the record whose bytes they are. -/
theorem to_of (zs : List Int) (hb : Cd.Bytes zs) : ∀ (n k at_ : Nat) (X : Nat → Int), k + n = 11 → at_ ≤ zs.length → ∃ xe ke fe, To zs xe ke fe n X at_ none ∧
    ((∃ p, fe = some p ∧ p.1 ≠ 0) ∨ (fe = none ∧ ke ≤ zs.length ∧ zs.take at_ ++ encF xe k n = zs.take ke ∧ (∀ j, j < k → xe j = X j) ∧ (∀ j, k ≤ j → j < 11 → lo j ≤ xe j ∧ xe j ≤ hi j) ∧ (1 ≤ n → xe 1 ≤ xe 0))) := by
  intro n
  induction n with
  | zero =>
    intro k at_ X hk hat
    exact ⟨X, at_, none, ⟨rfl, rfl, rfl⟩, .inr ⟨rfl, hat, by simp [encF], fun _ _ => rfl, fun j h1 h2 => by omega, fun h => by omega⟩⟩
  | succ n ih =>
    intro k at_ X hk hat
    obtain ⟨v, k', f', hr, hle, hor⟩ := Pd.rn_of zs hb at_ hat (lo k) (hi k)
    have ek : 10 - n = k := by omega
    rcases hor with ⟨rfl, h1, h2, h3⟩ | ⟨e, he, rfl, rfl, rfl⟩
    · by_cases ho : upd X k v 1 ≤ upd X k v 0
      · obtain ⟨xe, ke, fe, hT, hfe⟩ := ih (k + 1) k' (upd X k v) (by omega) hle
        refine ⟨xe, ke, fe, ⟨v, k', none, by rw [ek]; exact hr, .inr (by rw [ek]; exact ⟨h1, h2⟩), by rw [ek, if_pos ho]; exact hT⟩, ?_⟩
        rcases hfe with hfe | ⟨rfl, i1, i2, i3, i4, i5⟩
        · exact .inl hfe
        · have hxk : xe k = v := by rw [i3 k (by omega), updk_at]
          refine .inr ⟨rfl, i1, ?_, fun j hj => ?_, fun j hj1 hj2 => ?_, fun _ => ?_⟩
          · rw [← i2, ← h3]
            show zs.take at_ ++ (Cd.enc (xe k) ++ encF xe (k + 1) n) = _
            rw [hxk, List.append_assoc]
          · rw [i3 j (by omega), updk_no _ _ (by omega)]
          · by_cases hj : j = k
            · subst hj
              rw [hxk]
              exact ⟨h1, h2⟩
            · exact i4 j (by omega) hj2
          · by_cases hk1 : k = 0
            · exact i5 (by omega)
            · rw [i3 1 (by omega), i3 0 (by omega)]
              exact ho
      · refine ⟨zer (upd X k v) n, k', some (9, (at_ : Int)), ⟨v, k', none, by rw [ek]; exact hr, .inr (by rw [ek]; exact ⟨h1, h2⟩), ?_⟩, .inl ⟨_, rfl, (by decide : (9 : Int) ≠ 0)⟩⟩
        rw [ek, if_neg ho]
        exact to_fault zs (9, (at_ : Int)) n _ _
    · refine ⟨zer (upd X k 0) n, k', some (e, (k' : Int)), ⟨0, k', some (e, (k' : Int)), by rw [ek]; exact hr, .inl rfl, ?_⟩, .inl ⟨_, rfl, he⟩⟩
      rw [ek]
      have e2 : (if upd X k 0 1 ≤ upd X k 0 0 then some (e, (k' : Int)) else Cd.failOf (some (e, (k' : Int))) 9 (Cd.atOf k' none)) = some (e, (k' : Int)) := by
        split
        · rfl
        · rfl
      rw [e2]
      exact to_fault zs (e, (k' : Int)) n _ _
/-- What Read answers of any bytes: no fault only where they are a record's. -/
theorem read_of (zs : List Int) (hb : Cd.Bytes zs) : ∃ xe ke fe, To zs xe ke fe 11 zr 0 none ∧ ((Cd.endOf zs.length ke fe).1 = 0 → zs = encs xe 11 ∧ Kinds xe ∧ Chk xe 0 0) := by
  obtain ⟨xe, ke, fe, hT, h⟩ := to_of zs hb 11 0 0 zr rfl (Nat.zero_le _)
  refine ⟨xe, ke, fe, hT, fun he => ?_⟩
  rcases h with ⟨p, rfl, hp⟩ | ⟨rfl, i1, i2, _, i4, i5⟩
  · exact absurd he hp
  · have hke : ke = zs.length := by
      unfold Cd.endOf at he
      by_cases hlt : ke < zs.length
      · rw [if_pos hlt] at he
        exact absurd (show (4 : Int) = 0 from he) (by decide)
      · omega
    rw [List.take_zero, List.nil_append, hke, List.take_length] at i2
    rw [encs_F]
    obtain ⟨k1, k2⟩ := chk_of (fun i hi => i4 i (Nat.zero_le _) hi) (i5 (by omega))
    exact ⟨i2.symm, k1, k2⟩
end Pm
end Go.Proofs.YtpohcdfmkcfonaaGreatDoor
