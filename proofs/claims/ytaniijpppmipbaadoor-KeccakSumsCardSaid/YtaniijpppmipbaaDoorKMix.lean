/-
  What mixColumns of a state answers in this program.
-/
import Derived.Test.YtaniijpppmipbaaDoorKMove
namespace Go.Proofs.YtaniijpppmipbaaDoor
open Go.RowKit Go.Shelf
set_option linter.unusedVariables false
namespace Kk

/-- The columns' sums over the rows ahead of y. -/
def part5 (A : List Wd) : Nat → Nat → Wd
  | 0, _ => 0
  | y + 1, x => part5 A y x ^^^ g A (y * 5 + x)
theorem part_col (A : List Wd) (x : Nat) : part5 A 5 x = col A x := by
  have z : ∀ a : Wd, (0 : Wd) ^^^ a = a := by intro a; simp
  simp only [part5, col, Nat.zero_mul, Nat.zero_add]
  rw [z, show 1 * 5 + x = x + 5 by omega, show 2 * 5 + x = x + 10 by omega, show 3 * 5 + x = x + 15 by omega, show 4 * 5 + x = x + 20 by omega]
/-- The words behind the columns ahead of x, and of column x the rows ahead of y. -/
def mixed (A : List Wd) (x y : Nat) : List Wd := (List.range 25).map fun i => if i % 5 < x ∨ (i % 5 = x ∧ i / 5 < y) then g A i ^^^ dd A (i % 5) else g A i
theorem mixed0 {A : List Wd} (h : A.length = 25) : mixed A 0 0 = A := by
  unfold mixed
  have e : ∀ i : Nat, ¬ (i % 5 < 0 ∨ (i % 5 = 0 ∧ i / 5 < 0)) := by intro i; omega
  simp only [e, if_false]
  exact map_g h
theorem mixed5 (A : List Wd) : mixed A 5 0 = theta A := by
  unfold mixed theta
  apply List.map_congr_left
  intro i hi
  rw [if_pos (by omega)]
theorem mixed_next (A : List Wd) (x : Nat) : mixed A x 5 = mixed A (x + 1) 0 := by
  unfold mixed
  apply List.map_congr_left
  intro i hi
  have hi : i < 25 := by simpa using hi
  by_cases h : i % 5 < x ∨ (i % 5 = x ∧ i / 5 < 5)
  · rw [if_pos h, if_pos (by omega)]
  · rw [if_neg h, if_neg (by omega)]
theorem mixed_succ (A : List Wd) {x y : Nat} (hx : x < 5) (hy : y < 5) : (mixed A x y).set (y * 5 + x) (g A (y * 5 + x) ^^^ dd A x) = mixed A x (y + 1) := by
  unfold mixed
  rw [set_map]
  apply List.map_congr_left
  intro i hi
  have hi : i < 25 := by simpa using hi
  by_cases h : i = y * 5 + x
  · subst h
    rw [if_pos rfl, if_pos (by omega), show (y * 5 + x) % 5 = x by omega]
  · rw [if_neg h]
    by_cases h2 : i % 5 < x ∨ (i % 5 = x ∧ i / 5 < y)
    · rw [if_pos h2, if_pos (by omega)]
    · rw [if_neg h2, if_neg (by omega)]
theorem mixed_at {A : List Wd} {x y : Nat} (hx : x < 5) (hy : y < 5) : g (mixed A x y) (y * 5 + x) = g A (y * 5 + x) := by
  unfold mixed
  rw [g_map _ (by omega), if_neg (by omega)]

/-- The cells of the columns' sums. -/
def colCells (f : Nat → Wd) : Array Value := #[.int .u64 (U (f 0)), .int .u64 (U (f 1)), .int .u64 (U (f 2)), .int .u64 (U (f 3)), .int .u64 (U (f 4))]
theorem col_at (f : Nat → Wd) {x : Nat} (h : x < 5) : (colCells f)[x]? = some (.int .u64 (U (f x))) := by
  match x, h with
  | 0, _ => rfl
  | 1, _ => rfl
  | 2, _ => rfl
  | 3, _ => rfl
  | 4, _ => rfl
theorem col_set (f : Nat → Wd) {x : Nat} (h : x < 5) (z : Wd) : (colCells f).setIfInBounds x (.int .u64 (U z)) = colCells fun i => if i = x then z else f i := by
  match x, h with
  | 0, _ => rfl
  | 1, _ => rfl
  | 2, _ => rfl
  | 3, _ => rfl
  | 4, _ => rfl
theorem colCells_congr {f h : Nat → Wd} (e : ∀ i, i < 5 → f i = h i) : colCells f = colCells h := by
  unfold colCells
  rw [e 0 (by omega), e 1 (by omega), e 2 (by omega), e 3 (by omega), e 4 (by omega)]

theorem sums5 (x : Nat) (hx : x < 5) : IntKind.i64.wrap ((x : Int) + 5) = x + 5 ∧ IntKind.i64.wrap ((x : Int) + 5 - 1) = x + 5 - 1 ∧ ((x : Int) + 5 - 1).tmod 5 = (((x + 4) % 5 : Nat) : Int) ∧ IntKind.i64.wrap ((x : Int) + 1) = x + 1 ∧ ((x : Int) + 1).tmod 5 = (((x + 1) % 5 : Nat) : Int) := by
  refine ⟨IntWalk.i64_in _ (by omega), IntWalk.i64_in _ (by omega), ?_, IntWalk.i64_in _ (by omega), ?_⟩
  · rw [Int.tmod_eq_emod_of_nonneg (by omega)]
    omega
  · rw [Int.tmod_eq_emod_of_nonneg (by omega)]
    omega

set_option maxRecDepth 100000 in
set_option maxHeartbeats 4000000 in
theorem mixColumns (b : Nat) (A : List Wd) (r : Int) (w : World) (h : St w b A r) :
    Calls Tryd.prog 55 #[.pointer (some ⟨b, 0, none⟩)] w fun e w' => e = .returned (.tuple #[]) ∧ St w' b (theta A) r ∧ Kep (fun i => i = b) w w' := by
  have hbl := h.2.lt
  have B1 := (Bel.refl w).alloc (.cells (colCells fun _ => 0) 50)
  have N1 := Blk.new w (colCells fun _ => 0) 50
  obtain ⟨rb, hrb⟩ : ∃ rb, rb = w.heap.size := ⟨_, rfl⟩
  obtain ⟨w1, hw1⟩ : ∃ w1, w1 = w.alloc (.cells (colCells fun _ => 0) 50) := ⟨_, rfl⟩
  have HW1 := Lib.hid (show w.alloc (.cells #[.int .u64 0, .int .u64 0, .int .u64 0, .int .u64 0, .int .u64 0] 50) = w1 from hw1.symm)
  have HRB := Lib.hid hrb
  rw [← hw1, ← hrb] at N1
  rw [← hw1] at B1
  rw [← hrb] at hbl
  have S1 := Lib.hid (h.bel B1)
  have HN1 := Lib.hid N1
  have HB1 := Lib.hid B1
  clear h hw1 hrb B1 N1
  go_enter Tryd.func55, Tryd.ntmps55
  go_wp2_with fail
  rw [HW1.out, ← HRB.out]
  go_loopw [9] (fun i wr => ∃ y : Nat, i = .int .i64 y ∧ y ≤ 5 ∧ Blk wr rb (colCells (part5 A y)) 50 ∧ Kep (fun i => i = rb) w1 wr) (fun i _ => 5 - (intOf i).toNat)
  case atStart => exact ⟨0, rfl, by omega, HN1.out, Kep.refl _ _⟩
  case round =>
    obtain ⟨y, rfl, hy, hs, hk⟩ := hrel
    have HS := Lib.hid hs
    have HK := Lib.hid hk
    by_cases hlt : y < 5
    · have hS := S1.out.kep hk (by omega)
      have c0 := hS.word (i := y * 5) (by omega)
      have c1 := hS.word (i := y * 5 + 1) (by omega)
      have c2 := hS.word (i := y * 5 + 2) (by omega)
      have c3 := hS.word (i := y * 5 + 3) (by omega)
      have c4 := hS.word (i := y * 5 + 4) (by omega)
      clear hs hk hS
      go_wp2
      obtain ⟨D, hD⟩ : ∃ D : Array Value, #[.int .u64 (U (g A (y * 5))), .int .u64 (U (g A (y * 5 + 1))), .int .u64 (U (g A (y * 5 + 2))), .int .u64 (U (g A (y * 5 + 3))), .int .u64 (U (g A (y * 5 + 4)))] = D := ⟨_, rfl⟩
      have HD := Lib.hid (show ∀ x, x < 5 → D[x]? = some (.int .u64 (U (g A (y * 5 + x)))) from fun x hx => by
        rw [← hD]
        match x, hx with
        | 0, _ => rfl
        | 1, _ => rfl
        | 2, _ => rfl
        | 3, _ => rfl
        | 4, _ => rfl)
      rw [hD]
      clear c0 c1 c2 c3 c4 hD
      go_loopw [18] (fun i wr => ∃ x : Nat, i = .int .i64 x ∧ x ≤ 5 ∧ Blk wr rb (colCells fun i => if i < x then part5 A (y + 1) i else part5 A y i) 50 ∧ Kep (fun i => i = rb) w1 wr) (fun i _ => 5 - (intOf i).toNat)
      case atStart => exact ⟨0, rfl, by omega, by simp only [Nat.not_lt_zero, if_false]; exact HS.out, HK.out⟩
      case round =>
        obtain ⟨x, rfl, hx, hs, hk⟩ := hrel
        by_cases hlx : x < 5
        · have HS := Lib.hid hs
          have HK := Lib.hid hk
          have k0 := hs.cell x (col_at _ hlx)
          have f0 := hs.frozen x
          rw [if_neg (Nat.lt_irrefl x)] at k0
          have ix := idx_word 50 5 Tryd.underlying50 D x _ hlx (HD.out x hlx)
          have qx := xor_u (part5 A y x) (g A (y * 5 + x))
          have SB := Lib.hid (show (colCells fun i => if i < x then part5 A (y + 1) i else part5 A y i).setIfInBounds x (.int .u64 (U (part5 A y x ^^^ g A (y * 5 + x)))) = colCells fun i => if i < x + 1 then part5 A (y + 1) i else part5 A y i by
            rw [col_set _ hlx]
            refine colCells_congr fun i hi => ?_
            by_cases h : i = x
            · subst h; rw [if_pos rfl, if_pos (by omega)]; rfl
            · rw [if_neg h]
              by_cases h2 : i < x
              · rw [if_pos h2, if_pos (by omega)]
              · rw [if_neg h2, if_neg (by omega)])
          clear hs hk
          go_wp2
          go_roundw
          case rel =>
            refine ⟨x + 1, by go_num, by omega, ?_, HK.out.set_self _ _⟩
            have h := HS.out.set x (.int .u64 (U (part5 A y x ^^^ g A (y * 5 + x))))
            rw [SB.out] at h
            exact h
          case measure => simp [intOf] <;> omega
        · obtain rfl : x = 5 := by omega
          have hs2 : Blk wr rb (colCells (part5 A (y + 1))) 50 := by
            have e := colCells_congr (f := fun i => if i < 5 then part5 A (y + 1) i else part5 A y i) (h := part5 A (y + 1)) (fun i hi => if_pos hi)
            rw [e] at hs
            exact hs
          have HS := Lib.hid hs2
          have HK := Lib.hid hk
          clear hs hk hs2
          go_wp2
          go_roundw
          case rel => exact ⟨y + 1, by go_num, by omega, HS.out, HK.out⟩
          case measure => simp [intOf] <;> omega
    · obtain rfl : y = 5 := by omega
      have e := colCells_congr (f := part5 A 5) (h := col A) (fun i hi => part_col A i)
      rw [e] at hs
      have HS := Lib.hid hs
      clear e hs hk
      have S2 := Lib.hid (S1.out.kep HK.out (by omega))
      have K2 := Lib.hid (Kep.bel HB1.out HK.out (fun i hi => by rw [hi, HRB.out]; exact Nat.le_refl _))
      have L2 := HS.out.lt
      clear HK S1 HN1 HB1 HW1
      go_wp2
      go_loopw [30] (fun i wr => ∃ x : Nat, i = .int .i64 x ∧ x ≤ 5 ∧ St wr b (mixed A x 0) r ∧ Blk wr rb (colCells (col A)) 50 ∧ Kep (fun i => i = b) w wr) (fun i _ => 5 - (intOf i).toNat)
      case atStart => exact ⟨0, rfl, by omega, by rw [mixed0 S2.out.len]; exact S2.out, HS.out, Kep.of_bel K2.out⟩
      case round =>
        obtain ⟨x, rfl, hx, hs, hc, hk⟩ := hrel
        have HS := Lib.hid hs
        have HC := Lib.hid hc
        have HK := Lib.hid hk
        by_cases hlx : x < 5
        · have c1 := hc.cell ((x + 4) % 5) (col_at (col A) (by omega))
          have c2 := hc.cell ((x + 1) % 5) (col_at (col A) (by omega))
          have d1 := (hc.bel (Bel.refl _).drew).cell ((x + 4) % 5) (col_at (col A) (by omega))
          have d2 := (hc.bel (Bel.refl _).drew).cell ((x + 1) % 5) (col_at (col A) (by omega))
          obtain ⟨q1, q2, q3, q4, q5⟩ := sums5 x hlx
          have qx := xor_u (col A ((x + 4) % 5)) (rot (col A ((x + 1) % 5)) 1)
          clear hs hc hk
          go_wp2
          go_quiet ((go_at_call 66; exact Calls.quiet_of_same ((rotl (col A ((x + 1) % 5)) 1 _ (by omega)).mono fun e w' h => ⟨h.1, h.2.symm⟩)))
          rw [show col A ((x + 4) % 5) ^^^ rot (col A ((x + 1) % 5)) 1 = dd A x from rfl, show decide ((x : Int) < 5) = true from decide_eq_true (by omega)]
          have S3 := Lib.hid (HS.out.drewN nq)
          have C3 := Lib.hid (HC.out.bel ((Bel.refl wr).drewN nq))
          have K3 := Lib.hid (HK.out.drewN nq)
          clear c1 c2 d1 d2 q1 q2 q3 q4 q5 qx HS HC HK
          generalize wr.drewN nq = w3 at *
          go_wp2
          go_loopw [46] (fun i wr => ∃ y : Nat, i = .int .i64 y ∧ y ≤ 5 ∧ St wr b (mixed A x y) r ∧ Blk wr rb (colCells (col A)) 50 ∧ Kep (fun i => i = b) w wr) (fun i _ => 5 - (intOf i).toNat)
          case atStart => exact ⟨0, rfl, by omega, S3.out, C3.out, K3.out⟩
          case round =>
            obtain ⟨y, rfl, hy, hs, hc, hk⟩ := hrel
            have HS := Lib.hid hs
            have HC := Lib.hid hc
            have HK := Lib.hid hk
            by_cases hly : y < 5
            · have k0 := hs.word (i := y * 5 + x) (by omega)
              have f0 := hs.frozen (y * 5 + x)
              rw [mixed_at hlx hly] at k0
              clear hs hc hk
              go_wp2
              go_region
              go_wp2
              go_roundw
              case rel =>
                refine ⟨y + 1, by go_num, by omega, ?_, (HC.out.other (by omega) _ _).bel (Bel.refl _).drew, (HK.out.set_self _ _).drew⟩
                have h := (HS.out.set (i := y * 5 + x) (by omega) (g A (y * 5 + x) ^^^ dd A x)).drew
                rw [mixed_succ A hlx hly, ← xor_u] at h
                exact h
              case measure => simp [intOf] <;> omega
            · obtain rfl : y = 5 := by omega
              rw [mixed_next] at hs
              have HS := Lib.hid hs
              clear hs hc hk
              go_wp2
              go_roundw
              case rel => exact ⟨x + 1, by go_num, by omega, HS.out, HC.out, HK.out⟩
              case measure => simp [intOf] <;> omega
        · obtain rfl : x = 5 := by omega
          go_wp2
          go_end0
          refine ⟨rfl, ?_, HK.out⟩
          have h := HS.out
          rwa [mixed5] at h
end Kk
end Go.Proofs.YtaniijpppmipbaaDoor
