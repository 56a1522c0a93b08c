/-
  Whatever is asked for, something is read: which, for each thing. Plain facts; two readers side by side.
  Conditions: bytes; a place among them.
-/
import Derived.Test.YtejbhfcmhijfcaaReadY
namespace Go.Proofs.Ytejbhfcmhijfcaa
open Go.RowKit Go.Shelf
set_option linter.unusedVariables false
namespace Cd

theorem ru_any (zs : List Int) (hb : Bytes zs) (k : Nat) (f : Option (Int × Int)) (hk : k ≤ zs.length) : ∃ x k' f', RU zs k f x k' f' ∧ k' ≤ zs.length := by
  cases f with
  | some p => exact ⟨0, k, some p, .inl ⟨p, rfl, rfl, rfl, rfl⟩, hk⟩
  | none =>
    obtain ⟨x, k', f', h, _, _, ho⟩ := ru_of zs hb k hk
    refine ⟨x, k', f', h, ?_⟩
    rcases ho with ⟨_, h, _⟩ | ⟨_, _, _, rfl⟩
    · exact h
    · exact hk
theorem rh_any (zs : List Int) (k : Nat) (f : Option (Int × Int)) (hk : k ≤ zs.length) : ∃ hs k' f', RH zs k f hs k' f' ∧ k' ≤ zs.length ∧ hs.length = 32 := by
  cases f with
  | some p => exact ⟨_, k, some p, .inl ⟨p, rfl, rfl, rfl, rfl⟩, hk, List.length_replicate⟩
  | none =>
    obtain ⟨x, k', f', h, hl, ho⟩ := rh_of zs k hk
    refine ⟨x, k', f', h, ?_, hl⟩
    rcases ho with ⟨_, h, _⟩ | ⟨_, _, _, rfl⟩
    · exact h
    · exact hk
theorem way_val {zs : List Int} {k x tl bad : Int} (h : Way zs k x tl 0 bad) : 0 ≤ x ∧ x ≤ 18446744073709551615 := by
  rcases h with ⟨_, rfl, _⟩ | ⟨_, _, _, rfl, _⟩ | ⟨k, j, _, hj, _, _, _, _, h9, rfl, _⟩
  · exact ⟨by decide, by decide⟩
  · exact ⟨by decide, by decide⟩
  · exact ⟨(val_lt zs k (j + 1)).1, val_max zs k j hj h9⟩
theorem rn_any (zs : List Int) (hb : Bytes zs) (k : Nat) (f : Option (Int × Int)) (least most : Int) (hk : k ≤ zs.length) : ∃ x k' f', RN zs k f least most x k' f' ∧ k' ≤ zs.length := by
  cases f with
  | some p => exact ⟨0, k, some p, .inl ⟨p, rfl, rfl, rfl, rfl⟩, hk⟩
  | none =>
    obtain ⟨x0, t0, e0, b0, hw⟩ := way_of zs hb k
    by_cases he : e0 = 0
    · subst he
      obtain ⟨h0, h1⟩ := way_val hw
      obtain ⟨t, rfl, ht⟩ := way_to hw
      by_cases hc : x0 < least ∨ most < x0
      · exact ⟨0, k, some (3, (k : Int)), .inr ⟨rfl, 0, 3, k, ⟨x0, t, 0, b0, hw, h0, h1, .inr (.inl ⟨rfl, hc, rfl, rfl, rfl, rfl⟩)⟩, .inr ⟨by decide, rfl, rfl⟩, hk, fun _ => rfl⟩, hk⟩
      · exact ⟨x0, t, none, .inr ⟨rfl, t, 0, 0, ⟨x0, t, 0, b0, hw, h0, h1, .inr (.inr ⟨rfl, by omega, by omega, rfl, rfl, rfl, rfl⟩)⟩, .inl ⟨rfl, rfl, rfl⟩, ht, fun h => absurd rfl h⟩, ht⟩
    · have hx := way_zero hw he
      subst hx
      exact ⟨0, k, some (e0, b0), .inr ⟨rfl, 0, e0, b0, ⟨0, t0, e0, b0, hw, by decide, by decide, .inl ⟨he, rfl, rfl, rfl, rfl⟩⟩, .inr ⟨he, rfl, rfl⟩, hk, fun _ => rfl⟩, hk⟩
theorem rb_any (zs : List Int) (hb : Bytes zs) (k : Nat) (f : Option (Int × Int)) (most : Int) (hk : k ≤ zs.length) : ∃ ys k' f', RB zs k f most ys k' f' ∧ k' ≤ zs.length ∧ ys.length ≤ zs.length := by
  cases f with
  | some p => exact ⟨[], k, some p, .inl ⟨p, rfl, rfl, rfl, rfl⟩, hk, by simp⟩
  | none =>
    obtain ⟨x0, t0, e0, b0, hw⟩ := way_of zs hb k
    by_cases he : e0 = 0
    · subst he
      obtain ⟨h0, h1⟩ := way_val hw
      obtain ⟨t, rfl, ht⟩ := way_to hw
      by_cases hc : most < 0 ∨ most < x0
      · exact ⟨[], k, some (4, (k : Int)), .inr ⟨rfl, 0, 4, k, ⟨x0, t, 0, b0, hw, h0, h1, .inr (.inl ⟨rfl, hc, rfl, rfl, rfl, rfl⟩)⟩, .inr ⟨by decide, rfl, rfl⟩, hk, fun _ => rfl⟩, hk, by simp⟩
      · obtain ⟨m, rfl⟩ := Int.eq_ofNat_of_zero_le h0
        rcases Nat.lt_or_ge zs.length (t + m) with hlt | hge
        · exact ⟨[], k, some (6, (k : Int)), .inr ⟨rfl, 0, 6, k, ⟨_, t, 0, b0, hw, h0, h1, .inr (.inr (.inl ⟨t, rfl, ht, rfl, by omega, by omega, by omega, rfl, rfl, rfl, rfl⟩))⟩, .inr ⟨by decide, rfl, rfl⟩, hk, fun _ => rfl⟩, hk, by simp⟩
        · exact ⟨_, t + m, none, .inr ⟨rfl, _, 0, 0, ⟨_, t, 0, b0, hw, h0, h1, .inr (.inr (.inr ⟨t, m, rfl, rfl, hge, rfl, by omega, by omega, rfl, rfl, rfl, rfl⟩))⟩, .inl ⟨rfl, rfl, rfl⟩, hge, fun h => absurd rfl h⟩, hge, by simp; omega⟩
    · have hx := way_zero hw he
      subst hx
      exact ⟨[], k, some (e0, b0), .inr ⟨rfl, 0, e0, b0, ⟨0, t0, e0, b0, hw, by decide, by decide, .inl ⟨he, rfl, rfl, rfl, rfl⟩⟩, .inr ⟨he, rfl, rfl⟩, hk, fun _ => rfl⟩, hk, by simp⟩

/-- The program's reader and the reference's side by side. -/
structure Apart (b d : Nat) (A A2 : Option Addr) (n : Nat) : Prop where
  lt : b < d
  a : 0 < n → ∀ x : Addr, A = some x → x.block < d
  a2 : 0 < n → ∀ x : Addr, A2 = some x → x.block < d ∧ x.block ≠ b
def Both (w : World) (b d : Nat) (A A2 : Option Addr) (n c c2 : Nat) (zs : List Int) (k : Nat) (f : Option (Int × Int)) : Prop := RD d w b A n c zs k f ∧ QT w d A2 n c2 zs k f
theorem Both.bel {w w' : World} {b d : Nat} {A A2 : Option Addr} {n c c2 : Nat} {zs : List Int} {k : Nat} {f : Option (Int × Int)} (h : Both w b d A A2 n c c2 zs k f) (hb : Bel w w') : Both w' b d A A2 n c c2 zs k f := ⟨h.1.bel hb, h.2.bel hb⟩
theorem QT.lt {w : World} {b : Nat} {A : Option Addr} {n c : Nat} {zs : List Int} {k : Nat} {f : Option (Int × Int)} (h : QT w b A n c zs k f) : b < w.heap.size := by
  obtain ⟨k2, h1, _⟩ := h
  exact h1.blk.lt
/-- The program's reader moves: the reference's stands. -/
theorem QT.aside {w w' : World} {b d : Nat} {A A2 : Option Addr} {n c2 : Nat} {zs : List Int} {k : Nat} {f : Option (Int × Int)} (h : QT w d A2 n c2 zs k f) (ha : Apart b d A A2 n) (hk : Kep (fun i => i = b) w w') : QT w' d A2 n c2 zs k f :=
  h.kep hk (Nat.ne_of_gt ha.lt) (fun hn x hx => (ha.a2 hn x hx).2)
/-- The reference's reader moves: the program's stands. -/
theorem RD.aside {w w' : World} {b d : Nat} {A A2 : Option Addr} {n c : Nat} {zs : List Int} {k : Nat} {f : Option (Int × Int)} (h : RD d w b A n c zs k f) (ha : Apart b d A A2 n) (hk : Kep (fun i => i = d) w w') : RD d w' b A n c zs k f :=
  h.kep hk (Nat.ne_of_lt ha.lt) (fun hn x hx => Nat.ne_of_lt (ha.a hn x hx))
abbrev Two (b d : Nat) : Nat → Prop := fun i => i = b ∨ i = d
theorem kep_one {b d : Nat} {w w' : World} (h : Kep (fun i => i = b) w w') : Kep (Two b d) w w' := h.mono (fun _ _ h => .inl h)
theorem kep_two {b d : Nat} {w w' : World} (h : Kep (fun i => i = d) w w') : Kep (Two b d) w w' := h.mono (fun _ _ h => .inr h)
end Cd
end Go.Proofs.Ytejbhfcmhijfcaa
