/-
  The law's 'reads', whole; 'long'.
  Conditions: two readers side by side; things of 38 cells each.
-/
import Derived.Test.YtejbhfcmhijfcaaReads3
namespace Go.Proofs.Ytejbhfcmhijfcaa
open Go.RowKit Go.Shelf
set_option linter.unusedVariables false
namespace Cd

/-- What is known of a thing's cells. -/
def Thing (cs : Array Value) : Prop := cs.size = 38 ∧ (∃ k, cs[0]? = some (.int .i64 k)) ∧ (∃ x, cs[1]? = some (.int .i64 x) ∧ x ≤ 9223372036854775807) ∧ (∃ l, cs[2]? = some (.int .i64 l) ∧ l ≤ 9223372036854775807) ∧ (∃ A m c, cs[36]? = some (.slice A m c) ∧ m ≤ maxLen) ∧ (∃ e, cs[37]? = some (.int .i64 e))
theorem reads_all (b d : Nat) (A A2 : Option Addr) (n c c2 : Nat) (zs : List Int) (k : Nat) (f : Option (Int × Int)) (cs : Array Value) (w : World) (h : Both w b d A A2 n c c2 zs k f) (ha : Apart b d A A2 n) (hb : Bytes zs) (hT : Thing cs) (hA2 : 0 < n → ∀ x : Addr, A2 = some x → x.block < w.heap.size) :
    Calls Try.prog 21 #[.pointer (some ⟨b, 0, none⟩), .pointer (some ⟨d, 0, none⟩), .agg cs] w fun e w' => e = .returned (.bool true) ∧ (∃ k' f', Both w' b d A A2 n c c2 zs k' f') ∧ Kep (Two b d) w w' := by
  obtain ⟨_, ⟨kind, c0⟩, ⟨x, c1, x1⟩, ⟨l, c2_, l1⟩, _, ⟨er, c37⟩⟩ := hT
  by_cases h0 : kind = 0
  · subst h0; exact reads_0 b d A A2 n c c2 zs k f cs x er w h ha hb c0 c1 c37 x1
  by_cases h1 : kind = 1
  · subst h1; exact reads_1 b d A A2 n c c2 zs k f cs x er l w h ha hb c0 c1 c37 x1 c2_ l1
  by_cases h2 : kind = 2
  · subst h2; exact reads_2 b d A A2 n c c2 zs k f cs x er w h ha hb c0 c1 c37 x1 hA2
  by_cases h3 : kind = 3
  · subst h3; exact reads_3 b d A A2 n c c2 zs k f cs x er w h ha hb c0 c1 c37 x1
  by_cases h4 : kind = 4
  · subst h4; exact reads_4 b d A A2 n c c2 zs k f cs x er w h ha hb c0 c1 c37 x1
  have q : ∀ j, kind ≠ j → (kind == j) = false := fun j hj => by rw [beq_eq_false_iff_ne]; exact hj
  exact reads_else b d A A2 n c c2 zs k f cs x er kind w h ha hb c0 c1 c37 x1 (q 0 h0) (q 1 h1) (q 2 h2) (q 3 h3) (q 4 h4)

/-- A slice of things: each one's cells lie there. -/
def Things (w : World) (A : Option Addr) (n : Nat) : Prop := 0 < n → ∃ b o, A = some ⟨b, o, none⟩ ∧ b < w.heap.size ∧ ∀ i, i < n → ∃ cs, Thing cs ∧ ∀ j v, cs[j]? = some v → w.cell? ⟨b, o + i * 38 + j, none⟩ = some v
theorem Things.bel {w w' : World} {A : Option Addr} {n : Nat} (h : Things w A n) (hb : Bel w w') : Things w' A n := fun hn => by
  obtain ⟨b, o, h1, h2, h3⟩ := h hn
  exact ⟨b, o, h1, Nat.lt_of_lt_of_le h2 (Below.size hb), fun i hi => by
    obtain ⟨cs, hT, hc⟩ := h3 i hi
    exact ⟨cs, hT, fun j v hv => bel_cell hb (hc j v hv)⟩⟩

/-- Whether there are more things than are gone through. -/
def LongOf (n : Nat) (v : Value) : Prop := ∃ r, v = .bool r ∧ (r = false → n ≤ 40)
set_option maxRecDepth 100000 in
set_option maxHeartbeats 1000000 in
theorem long_ (A : Option Addr) (n c : Nat) (w : World) (h : Things w A n) (hn : n ≤ maxLen) :
    Calls Try.prog 18 #[.slice A n c] w fun e w' => (∃ v, e = .returned v ∧ LongOf n v) ∧ w = w' := by
  unfold maxLen at hn
  have H := Lib.hid h
  clear h
  go_enter Try.func18, Try.ntmps18
  go_wp2_with fail
  go_loop [3] (fun i => ∃ j : Nat, j ≤ n ∧ j ≤ 41 ∧ i = .int .i64 j) (fun i => 41 - (intOf i).toNat)
  case atStart => exact ⟨0, Nat.zero_le _, Nat.zero_le _, rfl⟩
  case round =>
    obtain ⟨j, hj, hj2, rfl⟩ := hrel
    by_cases hlt : j < n
    · have g1 : (j : Int) < (n : Int) := by omega
      by_cases hlt2 : j < 41
      · have g2 : (j : Int) < 41 := by omega
        have g0 : (0 : Int) ≤ (j : Int) := by omega
        obtain ⟨b, o, hA, hb, hc⟩ := H.out (by omega)
        subst hA
        obtain ⟨cs, hT, hcs⟩ := hc j hlt
        obtain ⟨_, _, _, _, ⟨A3, m3, c3, h36, hm3⟩, _⟩ := hT
        have hx := hcs 36 _ h36
        by_cases h200 : 200 < m3
        · have g3 : (200 : Int) < (m3 : Int) := by omega
          clear hc hcs hm3
          go_wp2
          go_ret
          exact ⟨⟨_, rfl, true, rfl, fun h => by cases h⟩, rfl⟩
        · have g3 : (m3 : Int) ≤ 200 := by omega
          have g4 : decide (200 < m3) = false := decide_eq_false h200
          clear hc hcs hm3
          go_wp2
          go_round
          case rel => exact ⟨j + 1, by omega, by omega, by go_num⟩
          case measure => simp [intOf]; omega
      · have g2 : (41 : Int) ≤ (j : Int) := by omega
        go_wp2
        go_ret
        exact ⟨⟨_, rfl, _, rfl, fun h => by simp at h; omega⟩, rfl⟩
    · have g1 : (n : Int) ≤ (j : Int) := by omega
      go_wp2
      go_ret
      exact ⟨⟨_, rfl, _, rfl, fun h => by simp at h; omega⟩, rfl⟩
end Cd
end Go.Proofs.Ytejbhfcmhijfcaa
