/-
  The mathematics of StampBack: Compare is an order; a stamp's own bytes are read as it, and what is read of bytes has just these. No program.
-/
import Derived.Test.YtagcpphkabkgjaaSm5
namespace Go.Proofs.Ytagcpphkabkgjaa
open Go.RowKit Go.Shelf
set_option linter.unusedVariables false
namespace Sm
open Cd

/-- The first comes before the second. -/
def Lt (a b c d e f g h : Int) : Prop := a < e ∨ (a = e ∧ (b < f ∨ (b = f ∧ (c < g ∨ (c = g ∧ d < h)))))
theorem cmp_cases (a b c d e f g h : Int) : (cmp a b c d e f g h = -1 ∧ Lt a b c d e f g h) ∨ (cmp a b c d e f g h = 0 ∧ a = e ∧ b = f ∧ c = g ∧ d = h) ∨ (cmp a b c d e f g h = 1 ∧ Lt e f g h a b c d) := by
  unfold cmp cmpL cmpL cmpL cmpL cmpL Lt
  by_cases h1 : a < e
  · rw [if_pos h1]; exact .inl ⟨rfl, .inl h1⟩
  rw [if_neg h1]
  by_cases h2 : e < a
  · rw [if_pos h2]; exact .inr (.inr ⟨rfl, .inl h2⟩)
  rw [if_neg h2]
  by_cases h3 : b < f
  · rw [if_pos h3]; exact .inl ⟨rfl, by omega⟩
  rw [if_neg h3]
  by_cases h4 : f < b
  · rw [if_pos h4]; exact .inr (.inr ⟨rfl, by omega⟩)
  rw [if_neg h4]
  by_cases h5 : c < g
  · rw [if_pos h5]; exact .inl ⟨rfl, by omega⟩
  rw [if_neg h5]
  by_cases h6 : g < c
  · rw [if_pos h6]; exact .inr (.inr ⟨rfl, by omega⟩)
  rw [if_neg h6]
  by_cases h7 : d < h
  · rw [if_pos h7]; exact .inl ⟨rfl, by omega⟩
  rw [if_neg h7]
  by_cases h8 : h < d
  · rw [if_pos h8]; exact .inr (.inr ⟨rfl, by omega⟩)
  rw [if_neg h8]
  exact .inr (.inl ⟨rfl, by omega, by omega, by omega, by omega⟩)
theorem lt_not {a b c d e f g h : Int} (h1 : Lt a b c d e f g h) (h2 : Lt e f g h a b c d) : False := by unfold Lt at h1 h2; omega
theorem lt_ne {a b c d e f g h : Int} (h1 : Lt a b c d e f g h) : ¬ (a = e ∧ b = f ∧ c = g ∧ d = h) := by unfold Lt at h1; omega
theorem lt_trans {a b c d e f g h i j k l : Int} (h1 : Lt a b c d e f g h) (h2 : Lt e f g h i j k l) : Lt a b c d i j k l := by unfold Lt at h1 h2 ⊢; omega
/-- What the statement asks of Compare. -/
theorem cmp_neg (a b c d e f g h : Int) : cmp e f g h a b c d = - cmp a b c d e f g h := by
  rcases cmp_cases a b c d e f g h with ⟨e1, h1⟩ | ⟨e1, rfl, rfl, rfl, rfl⟩ | ⟨e1, h1⟩
  · rcases cmp_cases e f g h a b c d with ⟨e2, h2⟩ | ⟨e2, h2⟩ | ⟨e2, h2⟩
    · exact (lt_not h1 h2).elim
    · exact (lt_ne h1 ⟨h2.1.symm, h2.2.1.symm, h2.2.2.1.symm, h2.2.2.2.symm⟩).elim
    · rw [e1, e2]; rfl
  · rw [e1]; rfl
  · rcases cmp_cases e f g h a b c d with ⟨e2, h2⟩ | ⟨e2, h2⟩ | ⟨e2, h2⟩
    · rw [e1, e2]
    · exact (lt_ne h1 h2).elim
    · exact (lt_not h1 h2).elim
theorem cmp_zero (a b c d e f g h : Int) : (cmp a b c d e f g h == 0) = (a == e && (b == f && (c == g && d == h))) := by
  rcases cmp_cases a b c d e f g h with ⟨e1, h1⟩ | ⟨e1, rfl, rfl, rfl, rfl⟩ | ⟨e1, h1⟩
  · rw [e1]
    have := lt_ne h1
    symm
    rw [show ((-1 : Int) == 0) = false from rfl]
    simp only [Bool.and_eq_false_iff, beq_eq_false_iff_ne]
    omega
  · rw [e1]; simp
  · rw [e1]
    have := lt_ne h1
    symm
    rw [show ((1 : Int) == 0) = false from rfl]
    simp only [Bool.and_eq_false_iff, beq_eq_false_iff_ne]
    omega
theorem cmp_range (a b c d e f g h : Int) : -1 ≤ cmp a b c d e f g h ∧ cmp a b c d e f g h ≤ 1 := by
  rcases cmp_cases a b c d e f g h with ⟨e1, _⟩ | ⟨e1, _⟩ | ⟨e1, _⟩ <;> rw [e1] <;> decide
theorem cmp_trans (a b c d e f g h i j k l : Int) (h1 : ¬ 0 < cmp a b c d e f g h) (h2 : ¬ 0 < cmp e f g h i j k l) : cmp a b c d i j k l ≤ 0 := by
  rcases cmp_cases a b c d i j k l with ⟨e3, _⟩ | ⟨e3, _⟩ | ⟨e3, h3⟩
  · rw [e3]; decide
  · rw [e3]; decide
  · exfalso
    rcases cmp_cases a b c d e f g h with ⟨e1, l1⟩ | ⟨e1, rfl, rfl, rfl, rfl⟩ | ⟨e1, l1⟩
    · rcases cmp_cases e f g h i j k l with ⟨e2, l2⟩ | ⟨e2, rfl, rfl, rfl, rfl⟩ | ⟨e2, l2⟩
      · exact lt_not (lt_trans l1 l2) h3
      · exact lt_not l1 h3
      · rw [e2] at h2; exact h2 (by decide)
    · rw [e3] at h2; exact h2 (by decide)
    · rw [e1] at h1; exact h1 (by decide)

/-- Some stamp is read of any bytes; where no fault is, its bytes are what was read. -/
theorem tk_of (zs : List Int) (hb : Bytes zs) (k : Nat) (hk : k ≤ zs.length) : ∃ a b c d k' f', Tk zs k none a b c d k' f' ∧ k' ≤ zs.length ∧ (∀ p, f' = some p → p.1 ≠ 0) ∧ (f' = none → ck a b c d = 0 ∧ zs.take k ++ enc4 a b c d = zs.take k') := by
  obtain ⟨a, k1, f1, r1, h1, o1⟩ := Rm.rn_of zs hb k hk 0 31
  rcases o1 with ⟨rfl, a0, a1, t1⟩ | ⟨e, he, rfl, rfl, rfl⟩
  · obtain ⟨b, k2, f2, r2, h2, o2⟩ := Rm.rn_of zs hb k1 h1 1 4294967296
    rcases o2 with ⟨rfl, b0, b1, t2⟩ | ⟨e, he, rfl, rfl, rfl⟩
    · obtain ⟨c, k3, f3, r3, h3, o3⟩ := Rm.rn_of zs hb k2 h2 0 32
      rcases o3 with ⟨rfl, c0, c1, t3⟩ | ⟨e, he, rfl, rfl, rfl⟩
      · obtain ⟨d, k4, f4, r4, h4, o4⟩ := Rm.rn_of zs hb k3 h3 0 4294967296
        rcases o4 with ⟨rfl, d0, d1, t4⟩ | ⟨e, he, rfl, rfl, rfl⟩
        · refine ⟨a, b, c - 1, d, k4, failOf none (ck a b (c - 1) d) (atOf k none), ⟨k1, none, k2, none, k3, none, c, none, r1, r2, r3, r4, rfl, c0, c1, rfl⟩, h4, ?_, ?_⟩
          · intro p hp
            unfold failOf at hp
            by_cases h0 : ck a b (c - 1) d = 0
            · rw [if_pos h0] at hp; cases hp
            · rw [if_neg h0] at hp; injection hp with hp; subst hp; exact h0
          · intro hn
            unfold failOf at hn
            by_cases h0 : ck a b (c - 1) d = 0
            · refine ⟨h0, ?_⟩
              unfold enc4
              rw [show c - 1 + 1 = c by omega, ← List.append_assoc, ← List.append_assoc, ← List.append_assoc, t1, t2, t3, t4]
            · rw [if_neg h0] at hn; cases hn
        · exact ⟨a, b, c - 1, 0, k4, some (e, (k4 : Int)), ⟨k1, none, k2, none, k4, none, c, some (e, (k4 : Int)), r1, r2, r3, r4, rfl, c0, c1, by unfold failOf; split <;> rfl⟩, h4, fun p hp => by injection hp with hp; subst hp; exact he, fun h => by cases h⟩
      · exact ⟨a, b, -1, 0, k3, some (e, (k3 : Int)), ⟨k1, none, k3, none, k3, some (e, (k3 : Int)), 0, some (e, (k3 : Int)), r1, r2, r3, .inl ⟨_, rfl, rfl, rfl, rfl⟩, rfl, by decide, by decide, by unfold failOf; split <;> rfl⟩, h3, fun p hp => by injection hp with hp; subst hp; exact he, fun h => by cases h⟩
    · exact ⟨a, 0, -1, 0, k2, some (e, (k2 : Int)), ⟨k2, none, k2, some (e, (k2 : Int)), k2, some (e, (k2 : Int)), 0, some (e, (k2 : Int)), r1, r2, .inl ⟨_, rfl, rfl, rfl, rfl⟩, .inl ⟨_, rfl, rfl, rfl, rfl⟩, rfl, by decide, by decide, by unfold failOf; split <;> rfl⟩, h2, fun p hp => by injection hp with hp; subst hp; exact he, fun h => by cases h⟩
  · exact ⟨0, 0, -1, 0, k1, some (e, (k1 : Int)), ⟨k1, some (e, (k1 : Int)), k1, some (e, (k1 : Int)), k1, some (e, (k1 : Int)), 0, some (e, (k1 : Int)), r1, .inl ⟨_, rfl, rfl, rfl, rfl⟩, .inl ⟨_, rfl, rfl, rfl, rfl⟩, .inl ⟨_, rfl, rfl, rfl, rfl⟩, rfl, by decide, by decide, by unfold failOf; split <;> rfl⟩, h1, fun p hp => by injection hp with hp; subst hp; exact he, fun h => by cases h⟩
/-- Behind a fault nothing is read. -/
theorem tk_fault (zs : List Int) (k : Nat) (p : Int × Int) : Tk zs k (some p) 0 0 (-1) 0 k (some p) :=
  ⟨k, some p, k, some p, k, some p, 0, some p, .inl ⟨p, rfl, rfl, rfl, rfl⟩, .inl ⟨p, rfl, rfl, rfl, rfl⟩, .inl ⟨p, rfl, rfl, rfl, rfl⟩, .inl ⟨p, rfl, rfl, rfl, rfl⟩, rfl, by decide, by decide, by unfold failOf; split <;> rfl⟩
theorem enc4_bytes {a b c d : Int} (h : ck a b c d = 0) : Bytes (enc4 a b c d) := by
  obtain ⟨a0, a1, b0, b1, c0, c1, d0, d1, -, -, -⟩ := ck_ok h
  unfold enc4
  refine bytes_of fun z hz => ?_
  simp only [List.mem_append] at hz
  rcases hz with ((hz | hz) | hz) | hz
  · exact encN_byte 9 _ (by omega) (by rw [top9]; omega) z hz
  · exact encN_byte 9 _ (by omega) (by rw [top9]; omega) z hz
  · exact encN_byte 9 _ (by omega) (by rw [top9]; omega) z hz
  · exact encN_byte 9 _ (by omega) (by rw [top9]; omega) z hz
end Sm
end Go.Proofs.Ytagcpphkabkgjaa
