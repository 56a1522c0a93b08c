/-
  The law FixKnown returns true: the chapter's examples are answered as it says. No condition (the law has no argument).
-/
import Derived.Test.YtdngpplmkghdhaaFixSum
namespace Go.Proofs.Ytdngpplmkghdhaa
open Go.RowKit Go.Shelf
set_option linter.unusedVariables false

theorem Ints.new_ (w : World) (zs : List Int) (t : TypeId) : Ints .u64 (w.alloc (.cells (zs.map (.int .u64)).toArray t)) (some ⟨w.heap.size, 0, none⟩) zs.length zs := by
  refine ⟨rfl, fun _ => ⟨_, 0, rfl, by simp, fun i hi => ?_⟩⟩
  rw [Nat.zero_add, World.cell?_alloc_new, List.getElem?_toArray, List.getElem?_map, List.getElem?_eq_getElem hi, List.getD_eq_getElem?_getD, List.getElem?_eq_getElem hi]
  rfl

namespace Fix
/-! ### Each contract again, with what it comes to under names of its own -/
theorem add' (a b n r : Int) (w : World) (a0 : 0 ≤ a) (a1 : a ≤ 18446744073709551615) (b0 : 0 ≤ b) (b1 : b ≤ 18446744073709551615) (hn : amt (a + b) = n) (hr : amtE (a + b) = r) :
    Calls Try.prog 10 #[.int .u64 a, .int .u64 b] w fun e w' => e = .returned (.tuple #[.int .u64 n, .int .i64 r]) ∧ Bel w w' := by
  subst hn hr; exact add a b w a0 a1 b0 b1
theorem sub' (a b n r : Int) (w : World) (a0 : 0 ≤ a) (a1 : a ≤ 18446744073709551615) (b0 : 0 ≤ b) (hn : dif a b = n) (hr : difE a b = r) :
    Calls Try.prog 13 #[.int .u64 a, .int .u64 b] w fun e w' => e = .returned (.tuple #[.int .u64 n, .int .i64 r]) ∧ w = w' := by
  subst hn hr; exact sub a b w a0 a1 b0
theorem mul' (a b n r : Int) (w : World) (a0 : 0 ≤ a) (a1 : a ≤ 18446744073709551615) (b0 : 0 ≤ b) (b1 : b ≤ 18446744073709551615) (hn : amt (a * b) = n) (hr : amtE (a * b) = r) :
    Calls Try.prog 15 #[.int .u64 a, .int .u64 b] w fun e w' => e = .returned (.tuple #[.int .u64 n, .int .i64 r]) ∧ Bel w w' := by
  subst hn hr; exact mul a b w a0 a1 b0 b1
theorem wide' (a b n r : Int) (w : World) (a0 : 0 ≤ a) (a1 : a ≤ 18446744073709551615) (b0 : 0 ≤ b) (b1 : b ≤ 18446744073709551615) (hn : hi (a * b) = n) (hr : lo (a * b) = r) :
    Calls Try.prog 19 #[.int .u64 a, .int .u64 b] w fun e w' => e = .returned (.tuple #[.int .u64 n, .int .u64 r]) ∧ Bel w w' := by
  subst hn hr; exact wide a b w a0 a1 b0 b1
theorem mulDiv' (a b c n r : Int) (w : World) (a0 : 0 ≤ a) (a1 : a ≤ 18446744073709551615) (b0 : 0 ≤ b) (b1 : b ≤ 18446744073709551615) (c0 : 0 ≤ c) (c1 : c ≤ 18446744073709551615) (hn : mdN a b c = n) (hr : mdE a b c = r) :
    Calls Try.prog 21 #[.int .u64 a, .int .u64 b, .int .u64 c] w fun e w' => e = .returned (.tuple #[.int .u64 n, .int .i64 r]) ∧ Bel w w' := by
  subst hn hr; exact mulDiv a b c w a0 a1 b0 b1 c0 c1
theorem mulDivUp' (a b c n r : Int) (w : World) (a0 : 0 ≤ a) (a1 : a ≤ 18446744073709551615) (b0 : 0 ≤ b) (b1 : b ≤ 18446744073709551615) (c0 : 0 ≤ c) (c1 : c ≤ 18446744073709551615) (hn : upN a b c = n) (hr : upE a b c = r) :
    Calls Try.prog 23 #[.int .u64 a, .int .u64 b, .int .u64 c] w fun e w' => e = .returned (.tuple #[.int .u64 n, .int .i64 r]) ∧ Bel w w' := by
  subst hn hr; exact mulDivUp a b c w a0 a1 b0 b1 c0 c1
theorem rest' (a b c n r : Int) (w : World) (a0 : 0 ≤ a) (a1 : a ≤ 18446744073709551615) (b0 : 0 ≤ b) (b1 : b ≤ 18446744073709551615) (c0 : 0 ≤ c) (c1 : c ≤ 18446744073709551615) (hn : restN a b c = n) (hr : restE c = r) :
    Calls Try.prog 25 #[.int .u64 a, .int .u64 b, .int .u64 c] w fun e w' => e = .returned (.tuple #[.int .u64 n, .int .i64 r]) ∧ Bel w w' := by
  subst hn hr; exact rest a b c w a0 a1 b0 b1 c0 c1
theorem capped' (m a b c n r : Int) (w : World) (m0 : 0 ≤ m) (m1 : m ≤ 18446744073709551615) (a0 : 0 ≤ a) (a1 : a ≤ 18446744073709551615) (b0 : 0 ≤ b) (b1 : b ≤ 18446744073709551615) (c0 : 0 ≤ c) (c1 : c ≤ 18446744073709551615) (hn : capN m a b c = n) (hr : restE c = r) :
    Calls Try.prog 27 #[.int .u64 m, .int .u64 a, .int .u64 b, .int .u64 c] w fun e w' => e = .returned (.tuple #[.int .u64 n, .int .i64 r]) ∧ Bel w w' := by
  subst hn hr; exact capped m a b c w m0 m1 a0 a1 b0 b1 c0 c1
theorem part' (a p n r : Int) (w : World) (a0 : 0 ≤ a) (a1 : a ≤ 18446744073709551615) (p0 : 0 ≤ p) (p1 : p ≤ 18446744073709551615) (hn : partN a p = n) (hr : partE a p = r) :
    Calls Try.prog 29 #[.int .u64 a, .int .u64 p] w fun e w' => e = .returned (.tuple #[.int .u64 n, .int .i64 r]) ∧ Bel w w' := by
  subst hn hr; exact part a p w a0 a1 p0 p1
theorem cmp' (a b c d n : Int) (w : World) (a0 : 0 ≤ a) (a1 : a ≤ 18446744073709551615) (b0 : 0 ≤ b) (b1 : b ≤ 18446744073709551615) (c0 : 0 ≤ c) (c1 : c ≤ 18446744073709551615) (d0 : 0 ≤ d) (d1 : d ≤ 18446744073709551615) (hn : cmpI (a * b) (c * d) = n) :
    Calls Try.prog 31 #[.int .u64 a, .int .u64 b, .int .u64 c, .int .u64 d] w fun e w' => e = .returned (.int .i64 n) ∧ Bel w w' := by
  subst hn; exact cmp a b c d w a0 a1 b0 b1 c0 c1 d0 d1

/-! ### The laws' small helpers -/
theorem is_ (a b c n : Int) (w : World) (a0 : 0 ≤ a) (a1 : a ≤ 18446744073709551615) (b0 : 0 ≤ b) (b1 : b ≤ 18446744073709551615) (c0 : 0 ≤ c) (c1 : c ≤ 18446744073709551615) (hn : mdN a b c = n) (hr : mdE a b c = 0) :
    Calls Try.prog 43 #[.int .u64 a, .int .u64 b, .int .u64 c, .int .u64 n] w fun e w' => e = .returned (.bool true) ∧ Bel w w' := by
  have F := Lib.hid (fun w => mulDiv' a b c n 0 w a0 a1 b0 b1 c0 c1 hn hr)
  clear hn hr
  go_enter Try.func43, Try.ntmps43
  go_wp2_with (go_at_call 21; refine (F.out _).mono ?_; rintro e w' ⟨rfl, hb⟩)
  go_ret
  exact ⟨rfl, hb⟩
theorem up_ (a b c n : Int) (w : World) (a0 : 0 ≤ a) (a1 : a ≤ 18446744073709551615) (b0 : 0 ≤ b) (b1 : b ≤ 18446744073709551615) (c0 : 0 ≤ c) (c1 : c ≤ 18446744073709551615) (hn : upN a b c = n) (hr : upE a b c = 0) :
    Calls Try.prog 33 #[.int .u64 a, .int .u64 b, .int .u64 c, .int .u64 n] w fun e w' => e = .returned (.bool true) ∧ Bel w w' := by
  have F := Lib.hid (fun w => mulDivUp' a b c n 0 w a0 a1 b0 b1 c0 c1 hn hr)
  clear hn hr
  go_enter Try.func33, Try.ntmps33
  go_wp2_with (go_at_call 23; refine (F.out _).mono ?_; rintro e w' ⟨rfl, hb⟩)
  go_ret
  exact ⟨rfl, hb⟩
theorem left_ (a b c n : Int) (w : World) (a0 : 0 ≤ a) (a1 : a ≤ 18446744073709551615) (b0 : 0 ≤ b) (b1 : b ≤ 18446744073709551615) (c0 : 0 ≤ c) (c1 : c ≤ 18446744073709551615) (hn : restN a b c = n) (hr : restE c = 0) :
    Calls Try.prog 34 #[.int .u64 a, .int .u64 b, .int .u64 c, .int .u64 n] w fun e w' => e = .returned (.bool true) ∧ Bel w w' := by
  have F := Lib.hid (fun w => rest' a b c n 0 w a0 a1 b0 b1 c0 c1 hn hr)
  clear hn hr
  go_enter Try.func34, Try.ntmps34
  go_wp2_with (go_at_call 25; refine (F.out _).mono ?_; rintro e w' ⟨rfl, hb⟩)
  go_ret
  exact ⟨rfl, hb⟩
theorem part_ (a p n : Int) (w : World) (a0 : 0 ≤ a) (a1 : a ≤ 18446744073709551615) (p0 : 0 ≤ p) (p1 : p ≤ 18446744073709551615) (hn : partN a p = n) (hr : partE a p = 0) :
    Calls Try.prog 35 #[.int .u64 a, .int .u64 p, .int .u64 n] w fun e w' => e = .returned (.bool true) ∧ Bel w w' := by
  have F := Lib.hid (fun w => part' a p n 0 w a0 a1 p0 p1 hn hr)
  clear hn hr
  go_enter Try.func35, Try.ntmps35
  go_wp2_with (go_at_call 29; refine (F.out _).mono ?_; rintro e w' ⟨rfl, hb⟩)
  go_ret
  exact ⟨rfl, hb⟩

theorem awake (w : World) : Calls Try.prog 9 #[] w fun e w' => e = .returned (.bool true) ∧ Bel w w' := by
  go_enter Try.func9, Try.ntmps9
  go_wp2_with fail
  refine (add' _ _ 18446744073709551615 0 _ (by decide) (by decide) (by decide) (by decide) (by decide) (by decide)).mono ?_
  rintro e w1 ⟨rfl, h1⟩
  go_wp2_with fail
  refine (add' _ _ 0 12 _ (by decide) (by decide) (by decide) (by decide) (by decide) (by decide)).mono ?_
  rintro e w2 ⟨rfl, h2⟩
  go_wp2_with fail
  refine (wide' _ _ 18446744073709551614 1 _ (by decide) (by decide) (by decide) (by decide) (by decide) (by decide)).mono ?_
  rintro e w3 ⟨rfl, h3⟩
  go_wp2_with fail
  refine (is_ _ _ _ _ _ (by decide) (by decide) (by decide) (by decide) (by decide) (by decide) (by decide) (by decide)).mono ?_
  rintro e w4 ⟨rfl, h4⟩
  go_wp2_with fail
  refine (is_ _ _ _ _ _ (by decide) (by decide) (by decide) (by decide) (by decide) (by decide) (by decide) (by decide)).mono ?_
  rintro e w5 ⟨rfl, h5⟩
  go_wp2_with fail
  refine (up_ _ _ _ _ _ (by decide) (by decide) (by decide) (by decide) (by decide) (by decide) (by decide) (by decide)).mono ?_
  rintro e w6 ⟨rfl, h6⟩
  go_wp2_with fail
  refine (part_ _ _ _ _ (by decide) (by decide) (by decide) (by decide) (by decide) (by decide)).mono ?_
  rintro e w7 ⟨rfl, h7⟩
  go_wp2_with fail
  refine (cmp' _ _ _ _ (-1) _ (by decide) (by decide) (by decide) (by decide) (by decide) (by decide) (by decide) (by decide) (by decide)).mono ?_
  rintro e w8 ⟨rfl, h8⟩
  go_wp2
  go_ret
  exact ⟨rfl, (((((((h1.trans h2).trans h3).trans h4).trans h5).trans h6).trans h7).trans h8)⟩

theorem known (w : World) : Calls Try.prog 5 #[] w fun e w' => e = .returned (.bool true) ∧ Bel w w' := by
  go_enter Try.func5, Try.ntmps5
  go_wp2_with fail
  refine (sub' _ _ 0 13 _ (by decide) (by decide) (by decide) (by decide) (by decide)).mono ?_
  rintro e w' ⟨rfl, rfl⟩
  go_wp2_with fail
  refine (mul' _ _ 0 12 _ (by decide) (by decide) (by decide) (by decide) (by decide) (by decide)).mono ?_
  rintro e w1 ⟨rfl, h1⟩
  go_wp2_with fail
  refine (sum _ _ _ [] _ Ints.nil_ (words_of (by simp)) (by decide)).mono ?_
  rintro e w2 ⟨rfl, h2⟩
  rw [show amt (sumTo [] 0) = 0 from rfl, show amtE (sumTo [] 0) = 0 from rfl]
  go_wp2_with fail
  refine (sum _ _ _ [18446744073709551615, 0, 1] _ (Ints.new_ _ [18446744073709551615, 0, 1] _) (words_of (by decide)) (by decide)).mono ?_
  rintro e w3 ⟨rfl, h3⟩
  rw [show amt (sumTo [18446744073709551615, 0, 1] ([18446744073709551615, 0, 1] : List Int).length) = 0 by decide, show amtE (sumTo [18446744073709551615, 0, 1] ([18446744073709551615, 0, 1] : List Int).length) = 12 by decide]
  go_wp2_with fail
  refine (wide' _ _ 1 0 _ (by decide) (by decide) (by decide) (by decide) (by decide) (by decide)).mono ?_
  rintro e w4 ⟨rfl, h4⟩
  go_wp2_with fail
  refine (mulDiv' _ _ _ 0 12 _ (by decide) (by decide) (by decide) (by decide) (by decide) (by decide) (by decide) (by decide)).mono ?_
  rintro e w5 ⟨rfl, h5⟩
  go_wp2_with fail
  refine (mulDiv' _ _ _ 0 2 _ (by decide) (by decide) (by decide) (by decide) (by decide) (by decide) (by decide) (by decide)).mono ?_
  rintro e w6 ⟨rfl, h6⟩
  go_wp2_with fail
  refine (mulDivUp' _ _ _ 0 12 _ (by decide) (by decide) (by decide) (by decide) (by decide) (by decide) (by decide) (by decide)).mono ?_
  rintro e w7 ⟨rfl, h7⟩
  go_wp2_with fail
  refine (up_ _ _ _ _ _ (by decide) (by decide) (by decide) (by decide) (by decide) (by decide) (by decide) (by decide)).mono ?_
  rintro e w8 ⟨rfl, h8⟩
  go_wp2_with fail
  refine (up_ _ _ _ _ _ (by decide) (by decide) (by decide) (by decide) (by decide) (by decide) (by decide) (by decide)).mono ?_
  rintro e w9 ⟨rfl, h9⟩
  go_wp2_with fail
  refine (up_ _ _ _ _ _ (by decide) (by decide) (by decide) (by decide) (by decide) (by decide) (by decide) (by decide)).mono ?_
  rintro e w10 ⟨rfl, h10⟩
  go_wp2_with fail
  refine (left_ _ _ _ _ _ (by decide) (by decide) (by decide) (by decide) (by decide) (by decide) (by decide) (by decide)).mono ?_
  rintro e w11 ⟨rfl, h11⟩
  go_wp2_with fail
  refine (left_ _ _ _ _ _ (by decide) (by decide) (by decide) (by decide) (by decide) (by decide) (by decide) (by decide)).mono ?_
  rintro e w12 ⟨rfl, h12⟩
  go_wp2_with fail
  refine (capped' _ _ _ _ 9 0 _ (by decide) (by decide) (by decide) (by decide) (by decide) (by decide) (by decide) (by decide) (by decide) (by decide)).mono ?_
  rintro e w13 ⟨rfl, h13⟩
  go_wp2_with fail
  refine (capped' _ _ _ _ 10 0 _ (by decide) (by decide) (by decide) (by decide) (by decide) (by decide) (by decide) (by decide) (by decide) (by decide)).mono ?_
  rintro e w14 ⟨rfl, h14⟩
  go_wp2_with fail
  refine (capped' _ _ _ _ 5 0 _ (by decide) (by decide) (by decide) (by decide) (by decide) (by decide) (by decide) (by decide) (by decide) (by decide)).mono ?_
  rintro e w15 ⟨rfl, h15⟩
  go_wp2_with fail
  refine (part' _ _ 0 3 _ (by decide) (by decide) (by decide) (by decide) (by decide) (by decide)).mono ?_
  rintro e w16 ⟨rfl, h16⟩
  go_wp2_with fail
  refine (awake _).mono ?_
  rintro e w17 ⟨rfl, h17⟩
  go_wp2_with fail
  refine (part_ _ _ _ _ (by decide) (by decide) (by decide) (by decide) (by decide) (by decide)).mono ?_
  rintro e w18 ⟨rfl, h18⟩
  go_wp2_with fail
  refine (part_ _ _ _ _ (by decide) (by decide) (by decide) (by decide) (by decide) (by decide)).mono ?_
  rintro e w19 ⟨rfl, h19⟩
  go_wp2_with fail
  refine (cmp' _ _ _ _ 0 _ (by decide) (by decide) (by decide) (by decide) (by decide) (by decide) (by decide) (by decide) (by decide)).mono ?_
  rintro e w20 ⟨rfl, h20⟩
  go_wp2
  go_ret
  exact ⟨rfl, (h1.trans (h2.trans ((((Bel.refl _).alloc _).trans h3).trans (h4.trans (h5.trans (h6.trans (h7.trans (h8.trans (h9.trans (h10.trans (h11.trans (h12.trans (h13.trans (h14.trans (h15.trans (h16.trans (h17.trans (h18.trans (h19.trans h20)))))))))))))))))))⟩
end Fix
end Go.Proofs.Ytdngpplmkghdhaa
