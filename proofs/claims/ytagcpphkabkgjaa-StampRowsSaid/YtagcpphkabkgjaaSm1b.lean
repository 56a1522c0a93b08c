/-
  What stamp.Compare answers: any two stamps. No condition.
-/
import Derived.Test.YtagcpphkabkgjaaSm1
import Derived.WalkMore
namespace Go.Proofs.Ytagcpphkabkgjaa
open Go.RowKit Go.Shelf
set_option linter.unusedVariables false
namespace Sm
open Kk

/-- The order of lists of pairs. -/
def cmpL : List (Int × Int) → Int
  | [] => 0
  | (x, y) :: l => if x < y then -1 else if y < x then 1 else cmpL l
def cmp (a b c d e f g h : Int) : Int := cmpL [(a, e), (b, f), (c, g), (d, h)]
def cellsP : List (Int × Int) → List Value
  | [] => []
  | (x, y) :: l => .int .i64 x :: .int .i64 y :: cellsP l
theorem cellsP_at : ∀ (l : List (Int × Int)) (i : Nat) (x y : Int), l[i]? = some (x, y) → (cellsP l)[2 * i]? = some (.int .i64 x) ∧ (cellsP l)[2 * i + 1]? = some (.int .i64 y)
  | [], i, x, y, h => by simp at h
  | (p, q) :: l, 0, x, y, h => by simp at h; obtain ⟨rfl, rfl⟩ := h; exact ⟨rfl, rfl⟩
  | (p, q) :: l, i + 1, x, y, h => by
    have := cellsP_at l i x y (by simpa using h)
    rw [show 2 * (i + 1) = 2 * i + 1 + 1 by omega]
    exact this
theorem cmpL_skip : ∀ (l : List (Int × Int)) (i : Nat), (∀ (j : Nat) (x y : Int), j < i → l[j]? = some (x, y) → x = y) → cmpL l = cmpL (l.drop i)
  | l, 0, _ => rfl
  | [], i + 1, _ => rfl
  | (p, q) :: l, i + 1, hb => by
    obtain rfl : p = q := hb 0 p q (by omega) rfl
    show (if p < p then (-1 : Int) else if p < p then 1 else cmpL l) = cmpL (l.drop i)
    rw [if_neg (by omega), if_neg (by omega)]
    exact cmpL_skip l i (fun j x y hj hl => hb (j + 1) x y (by omega) (by simpa using hl))
theorem cmpL_at (l : List (Int × Int)) (i : Nat) (x y : Int) (h : l[i]? = some (x, y)) : cmpL (l.drop i) = if x < y then -1 else if y < x then 1 else cmpL (l.drop (i + 1)) := by
  obtain ⟨hi, h2⟩ := List.getElem?_eq_some_iff.1 h
  rw [List.drop_eq_getElem_cons hi, h2]
  rfl

set_option maxRecDepth 10000 in
set_option maxHeartbeats 2000000 in
theorem compare (a b c d e f g h : Int) (w : World) : Calls Try.prog 40 #[stV a b c d, stV e f g h] w fun r w' => r = .returned (.int .i64 (cmp a b c d e f g h)) ∧ Bel w w' := by
  have HC := Lib.hid (show cmp a b c d e f g h = cmpL [(a, e), (b, f), (c, g), (d, h)] from rfl)
  have PN := Lib.hid (Blk.new ((w.alloc (.cells #[.int .i64 a, .int .i64 b, .int .i64 c, .int .i64 d] 23)).alloc (.cells #[.int .i64 e, .int .i64 f, .int .i64 g, .int .i64 h] 23)) (cellsP [(a, e), (b, f), (c, g), (d, h)]).toArray 96)
  have BN := Lib.hid ((((Bel.refl w).alloc (.cells #[.int .i64 a, .int .i64 b, .int .i64 c, .int .i64 d] 23)).alloc (.cells #[.int .i64 e, .int .i64 f, .int .i64 g, .int .i64 h] 23)).alloc (.cells (cellsP [(a, e), (b, f), (c, g), (d, h)]).toArray 96))
  go_enter Try.func40, Try.ntmps40
  obtain ⟨l, hl⟩ : ∃ l, [(a, e), (b, f), (c, g), (d, h)] = l := ⟨_, rfl⟩
  have H4 := Lib.hid (show l.length = 4 by rw [← hl]; rfl)
  rw [hl] at HC
  have HLL := Lib.hid hl
  clear hl
  go_wp2_with fail
  go_step3
  go_wp2_with fail
  go_step3
  go_wp2_with fail
  go_loopw [4, 29] (fun s4 s29 wr => ∃ k : Nat, s29 = .int .i64 k ∧ k ≤ 4 ∧ s4 = .int .i64 0 ∧ Hid ((∀ (j : Nat) (x y : Int), j < k → l[j]? = some (x, y) → x = y) ∧ Bel w wr ∧ Blk wr (w.heap.size + 2) (cellsP l).toArray 96)) (fun _ s29 _ => 4 - (intOf s29).toNat)
  case atStart =>
    refine ⟨0, rfl, by omega, rfl, Lib.hid ⟨fun j x y hj => absurd hj (by omega), ?_, ?_⟩⟩
    · exact BN.out
    · rw [← HLL.out]; have := PN.out; rw [World.size_alloc, World.size_alloc] at this; exact this
  case round =>
    obtain ⟨k, rfl, hk, rfl, hh⟩ := hrel
    by_cases hlt : k < 4
    · obtain ⟨x, y, hxy⟩ : ∃ x y, l[k]? = some (x, y) := by
        have : k < l.length := by rw [H4.out]; exact hlt
        exact ⟨l[k].1, l[k].2, List.getElem?_eq_getElem this⟩
      have HXY := Lib.hid hxy
      obtain ⟨e0, e1⟩ := cellsP_at l k x y hxy
      have c0 : wr.cell? ⟨w.heap.size + 2, k * 2, none⟩ = some (.int .i64 x) := hh.out.2.2.cell _ (by rw [List.getElem?_toArray, Nat.mul_comm]; exact e0)
      have c1 : wr.cell? ⟨w.heap.size + 2, k * 2 + 1, none⟩ = some (.int .i64 y) := hh.out.2.2.cell _ (by rw [List.getElem?_toArray, Nat.mul_comm]; exact e1)
      have hlt3 : (k : Int) < 4 := by omega
      have CM := Lib.hid ((cmpL_skip l k hh.out.1).trans (cmpL_at l k x y hxy))
      clear hxy e0 e1
      by_cases h1 : x < y
      · have CM := Lib.hid (CM.out.trans (if_pos h1))
        go_wp2_with fail
        rw [Exit.noGoto_ret]
        go_ret
        exact ⟨by rw [HC.out, CM.out]; rfl, hh.out.2.1.alloc _⟩
      · by_cases h2 : y < x
        · have CM := Lib.hid (CM.out.trans ((if_neg h1).trans (if_pos h2)))
          go_wp2_with fail
          go_ret
          exact ⟨by rw [HC.out, CM.out]; rfl, hh.out.2.1.alloc _⟩
        · obtain rfl : x = y := by omega
          clear h1 h2
          go_wp2_with fail
          go_roundw
          case rel =>
            refine ⟨k + 1, by go_num, by omega, rfl, Lib.hid ⟨fun j u v hj hu => ?_, hh.out.2.1.alloc _, hh.out.2.2.alloc _⟩⟩
            rcases Nat.lt_or_ge j k with h' | h'
            · exact hh.out.1 j u v h' hu
            · obtain rfl : j = k := by omega
              have := HXY.out.symm.trans hu
              simp at this
              rw [← this.1, ← this.2]
          case measure => simp [intOf]; omega
    · obtain rfl : k = 4 := by omega
      have CM := Lib.hid (cmpL_skip l 4 hh.out.1)
      rw [show l.drop 4 = [] from List.drop_eq_nil_of_le (by rw [H4.out]; omega)] at CM
      go_wp2_with fail
      (try rw [Exit.noGoto_ret])
      go_ret
      exact ⟨by rw [HC.out, CM.out]; rfl, hh.out.2.1⟩
end Sm
end Go.Proofs.Ytagcpphkabkgjaa
