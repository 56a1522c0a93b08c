/-
  What the small functions of distraintkit answer in this program: bytes side by side, copied, written over, lent with room behind them.
  Conditions: the slices read as bytes, of at most 10^9 of them.
-/
import Derived.Laws.BytesArg
import Derived.Laws.AppendOwnNone
import Derived.WalkSpells
import Derived.Test.YtpohcdfmkcfonaaGreatDoorGRef02
namespace Go.Proofs.YtpohcdfmkcfonaaGreatDoor
open Go.RowKit Go.Shelf
set_option linter.unusedVariables false
namespace Cd

theorem conv {A : Option Addr} {n c : Nat} {zs : List Int} {w : World} (hi : Ints .u8 w A n zs) : (convert 25 9 (.slice A n c)).run Tryz.prog w = .ok (.string (strOfNums zs)) w := by
  rcases Nat.eq_zero_or_pos n with rfl | hn
  · have : zs = [] := List.length_eq_zero_iff.1 hi.1
    subst this
    cases A with
    | none => exact run_convert_bytes_nil w _ _ Tryz.underlying25 Tryz.underlying5 0 c _ Tryz.underlying9
    | some a =>
      rw [run_convert_bytes_string w _ _ _ _ 0 c Tryz.underlying25 Tryz.underlying5 Tryz.underlying9]
      exact run_bytesToString w a 0 c [] (run_loadCells_list w a [] (fun j v h => by simp at h))
  · obtain ⟨b, o, rfl, _, hc⟩ := hi.2 hn
    exact run_convert_bytes_arg w _ _ Tryz.underlying25 Tryz.underlying5 b o n c zs hi.1 hc _ Tryz.underlying9

theorem same (A B : Option Addr) (n c m d : Nat) (zs : List Int) (w : World) (ha : Ints .u8 w A n zs) (hb : Ints .u8 w B m zs) :
    Calls Tryz.prog 9 #[.slice A n c, .slice B m d] w fun e w' => e = .returned (.bool true) ∧ w = w' := by
  have h1 := conv ha (c := c)
  have h2 := conv hb (c := d)
  clear ha hb
  generalize strOfNums zs = s at *
  go_enter Tryz.func9, Tryz.ntmps9
  go_wp2
  go_ret
  exact ⟨by simp, rfl⟩

/-- A slice of bytes: nil has no room. -/
structure Sl (w : World) (A : Option Addr) (n c : Nat) (zs : List Int) : Prop where
  ints : Ints .u8 w A n zs
  cap : n ≤ c
  nil : A = none → c = 0
theorem Sl.bel {w w' : World} {A : Option Addr} {n c : Nat} {zs : List Int} (h : Sl w A n c zs) (hb : Bel w w') : Sl w' A n c zs := ⟨h.ints.bel hb, h.cap, h.nil⟩
theorem Sl.len {w : World} {A : Option Addr} {n c : Nat} {zs : List Int} (h : Sl w A n c zs) : zs.length = n := h.ints.1
theorem sl_of_own {w : World} {base : Nat} {e : TypeId} {v : Value} {n : Nat} {zs : List Int} (h : w.ownsRow base e 1 v n (zs.map (Value.int .u8))) : ∃ A c, v = .slice A n c ∧ Sl w A n c zs := by
  obtain ⟨A, c, e, hi, hc, _⟩ := ints_of_own h
  refine ⟨A, c, e, hi, hc, ?_⟩
  rintro rfl
  rcases h.2 with ⟨h1, _⟩ | ⟨g, cap, cur, h1, _⟩
  · rw [h1] at e; injection e with _ _ e; exact e.symm
  · rw [h1] at e; injection e with e; cases e
theorem Fresh.sl {w w' : World} {v : Value} {zs : List Int} (h : Fresh w w' v zs) : ∃ A c, v = .slice A zs.length c ∧ Sl w' A zs.length c zs := sl_of_own h.1

theorem wpList_append_sl {w : World} {ops : Array Oper} {rest : List Oper} {o : Oper} {a : Act} {Q : Exit → Act → World → Prop} (hgd : o.guard = none) (s x : Operand)
    (ho : o.op = .call { callee := .builtin .append, args := #[s, x], argTypes := #[25, 25] })
    (base : Nat) (v : Value) (k : Nat) (xs : List Value) (hs : a.eval s = v) (hown : w.ownsRow base 5 1 v k xs) (A : Option Addr) (m c : Nat) (zs : List Int) (hx : a.eval x = .slice A m c) (hi : Sl w A m c zs)
    (hm : k + m ≤ 1000000000000) (hb : base ≤ w.heap.size)
    (h : ∀ v' w', w'.ownsRow base 5 1 v' (k + m) (xs ++ zs.map (Value.int .u8)) → w.grownBy w' v.ownBlock → wpList Tryz.prog ops Q rest (a.put o.dst v') w') : wpList Tryz.prog ops Q (o :: rest) a w := by
  obtain ⟨i0, h1, hz0, hz1, hz2⟩ := info_parts Tryz.info_u8
  cases A with
  | none =>
    obtain rfl : c = 0 := hi.nil rfl
    obtain rfl : m = 0 := by have := hi.cap; omega
    have hz : zs = [] := List.length_eq_zero_iff.1 hi.ints.1
    subst hz
    refine wpList_append_own_none hgd s x 25 ho base 5 i0 1 Tryz.underlying25 h1 v k xs hs hown hx ?_
    exact h v w (by simpa using hown) ⟨rfl, rfl, rfl, Nat.le_refl _, fun _ _ _ => rfl⟩
  | some ad =>
    refine wpList_append_own w hgd s x 25 ho base 5 i0 (.int .u8 0) 1 1 Tryz.underlying25 h1 hz0 hz1 hz2 rfl (by decide) v k xs hs hown ad m c (zs.map (Value.int .u8)) hx (by have := hi.ints.1; simp; omega) (Ints.news hi.ints) (ints_ok zs) (by unfold maxLen; omega) (by omega) hb ?_
    intro v' w' h2 h3 _
    exact h v' w' h2 h3

theorem own_empty (w : World) : (w.alloc (.cells #[] 5)).ownsRow w.heap.size 5 1 (.slice (some ⟨w.heap.size, 0, none⟩) 0 0) 0 [] :=
  World.ownsRow_lit w #[] 0 (Nat.le_refl _) (Nat.zero_le _) rfl

/-- append([]byte{}, b...) -/
theorem copyBytes (A : Option Addr) (n c : Nat) (zs : List Int) (w : World) (hi : Sl w A n c zs) (hn : n ≤ 1000000000) :
    Calls Tryz.prog 12 #[.slice A n c] w fun e w' => ∃ v, e = .returned v ∧ Fresh w w' v zs := by
  have HS := Lib.hid (hi.bel ((Bel.refl w).alloc (.cells #[] 5)))
  have HE := Lib.hid (own_empty w)
  have HL := Lib.hid hi.len
  clear hi
  go_enter Tryz.func12, Tryz.ntmps12
  go_wp2_with (at_builtin; refine wpList_append_sl rfl _ _ rfl w.heap.size _ 0 [] rfl HE.out A n c zs rfl HS.out (by omega) (by simp) ?_; intro v' w1 hown' hgrow)
  have HO := Lib.hid hown'
  have hb : Bel w w1 := Bel.grown ((Bel.refl w).alloc _) hgrow (fun k hk => (HE.out.lt k hk).1)
  clear hown' hgrow
  go_wp2
  go_ret
  refine ⟨_, rfl, ?_, hb⟩
  have h := HO.out
  rw [Nat.zero_add, List.nil_append, ← HL.out] at h
  exact h

theorem clone (A : Option Addr) (n c : Nat) (zs : List Int) (w : World) (hi : Sl w A n c zs) (hn : n ≤ 1000000000) :
    Calls Tryz.prog 59 #[.slice A n c] w fun e w' => ∃ v, e = .returned v ∧ Fresh w w' v zs := by
  have HS := Lib.hid (hi.bel ((Bel.refl w).alloc (.cells #[] 5)))
  have HE := Lib.hid (own_empty w)
  have HL := Lib.hid hi.len
  have HC := Lib.hid hi.cap
  have HN := Lib.hid hi.nil
  clear hi
  cases A with
  | none =>
    have hz : Hid (zs = []) := List.length_eq_zero_iff.1 (by have := HN.out rfl; have := HC.out; have := HL.out; omega)
    have hq := fun w => Lib.run_eql_slice_nil (P := Tryz.prog) w 25 5 none n c 0 0 Tryz.underlying25
    go_enter Tryz.func59, Tryz.ntmps59
    go_wp2
    go_ret
    refine ⟨_, rfl, ?_, Bel.refl _⟩
    rw [hz.out]
    exact World.ownsRow_nil _ _ _ _
  | some ad =>
    have hq := fun w => Lib.run_eql_slice_nil (P := Tryz.prog) w 25 5 (some ad) n c 0 0 Tryz.underlying25
    go_enter Tryz.func59, Tryz.ntmps59
    go_wp2_with (at_builtin; refine wpList_append_sl rfl _ _ rfl w.heap.size _ 0 [] rfl HE.out (some ad) n c zs rfl HS.out (by omega) (by simp) ?_; intro v' w1 hown' hgrow)
    have HO := Lib.hid hown'
    have hb : Bel w w1 := Bel.grown ((Bel.refl w).alloc _) hgrow (fun k hk => (HE.out.lt k hk).1)
    clear hown' hgrow
    go_wp2
    go_ret
    refine ⟨_, rfl, ?_, hb⟩
    have h := HO.out
    rw [Nat.zero_add, List.nil_append, ← HL.out] at h
    exact h

/-- What the call may have turned: the blocks S alone. -/
structure Kep (S : Nat → Prop) (a w : World) : Prop where
  os : w.os = a.os
  tape : w.tape = a.tape
  output : w.output = a.output
  size : a.heap.size ≤ w.heap.size
  block : ∀ k, k < a.heap.size → ¬ S k → w.heap[k]? = a.heap[k]?
theorem Kep.refl (S : Nat → Prop) (a : World) : Kep S a a := ⟨rfl, rfl, rfl, Nat.le_refl _, fun _ _ _ => rfl⟩
theorem Kep.of_bel {S : Nat → Prop} {a w : World} (h : Bel a w) : Kep S a w := ⟨Below.os h, Below.tape h, Below.output h, Below.size h, fun k hk _ => Below.block h k hk⟩
theorem Kep.trans {S : Nat → Prop} {a b c : World} (h : Kep S a b) (k : Kep S b c) : Kep S a c :=
  ⟨k.os.trans h.os, k.tape.trans h.tape, k.output.trans h.output, Nat.le_trans h.size k.size, fun i hi hs => (k.block i (Nat.lt_of_lt_of_le hi h.size) hs).trans (h.block i hi hs)⟩
theorem Kep.mono {S T : Nat → Prop} {a b : World} (h : Kep S a b) (hst : ∀ k, k < a.heap.size → S k → T k) : Kep T a b := ⟨h.os, h.tape, h.output, h.size, fun i hi hs => h.block i hi (fun hS => hs (hst i hi hS))⟩
theorem Kep.grown {S : Nat → Prop} {a w w' : World} {row : Option Nat} (h : Kep S a w) (hg : w.grownBy w' row) (hr : ∀ k, row = some k → k < a.heap.size → S k) : Kep S a w' :=
  ⟨hg.os.trans h.os, hg.tape.trans h.tape, hg.output.trans h.output, Nat.le_trans h.size hg.size, fun i hi hs => (hg.block i (Nat.lt_of_lt_of_le hi h.size) (fun e => hs (hr i e.symm hi))).trans (h.block i hi hs)⟩
theorem Kep.bel {S : Nat → Prop} {a b w : World} (h : Bel a b) (k : Kep S b w) (hs : ∀ k, S k → a.heap.size ≤ k) : Bel a w :=
  ⟨k.os.trans (Below.os h), k.tape.trans (Below.tape h), k.output.trans (Below.output h), Nat.le_trans (Below.size h) k.size, fun i hi => (k.block i (Nat.lt_of_lt_of_le hi (Below.size h)) (fun hS => by have := hs i hS; omega)).trans (Below.block h i hi)⟩
theorem Kep.alloc {S : Nat → Prop} {a w : World} (h : Kep S a w) (o : Obj) : Kep S a (w.alloc o) := h.trans (Kep.of_bel ((Bel.refl w).alloc o))
theorem Kep.drewN {S : Nat → Prop} {a w : World} (h : Kep S a w) (n : Nat) : Kep S a (w.drewN n) := h.trans (Kep.of_bel ((Bel.refl w).drewN n))
theorem Kep.drew {S : Nat → Prop} {a w : World} (h : Kep S a w) : Kep S a w.drew := h.trans (Kep.of_bel ((Bel.refl w).drew))
theorem Kep.set {S : Nat → Prop} {a w : World} (h : Kep S a w) {b o : Nat} (hp : S b) (u : Value) : Kep S a (w.setCell ⟨b, o, none⟩ u) :=
  h.trans ⟨rfl, rfl, rfl, by have := (KeepsWalks.setCell w ⟨b, o, none⟩ u).size; exact this, fun k hk hs => Below.heap_setCell w ⟨b, o, none⟩ u k (fun e => hs (by rw [e]; exact hp))⟩
theorem Kep.cell {S : Nat → Prop} {a w : World} (h : Kep S a w) {b o : Nat} {v : Value} (hs : ¬ S b) (hc : a.cell? ⟨b, o, none⟩ = some v) : w.cell? ⟨b, o, none⟩ = some v :=
  (World.cell?_of_block (w := a) (h.block b (World.block_lt_of_cell? a ⟨b, o, none⟩ hc) hs)).trans hc
theorem Kep.ints {S : Nat → Prop} {k : IntKind} {a w : World} {A : Option Addr} {n : Nat} {zs : List Int} (h : Kep S a w) (hs : ∀ x, A = some x → ¬ S x.block) (hi : Ints k a A n zs) : Ints k w A n zs := by
  refine ⟨hi.1, fun hn => ?_⟩
  obtain ⟨b, o, rfl, hlt, hc⟩ := hi.2 hn
  exact ⟨b, o, rfl, Nat.lt_of_lt_of_le hlt h.size, fun i hin => h.cell (hs _ rfl) (hc i hin)⟩
theorem Kep.owns {S : Nat → Prop} {a w : World} {base : Nat} {e : TypeId} {size : Nat} {v : Value} {n : Nat} {xs : List Value} (h : Kep S a w) (hs : ∀ k, v.ownBlock = some k → ¬ S k) (ho : a.ownsRow base e size v n xs) : w.ownsRow base e size v n xs := by
  refine ⟨ho.1, ho.2.imp id ?_⟩
  rintro ⟨g, cap, cur, rfl, hb, hg, r⟩
  exact ⟨g, cap, cur, rfl, hb, (h.block g (Array.getElem?_eq_some_iff.1 hg).1 (hs g rfl)).trans hg, r⟩

theorem xor_u8 (a b : Int) (w : World) : ∃ z, bits .xor .u8 a b = z := ⟨_, rfl⟩

theorem own_form {w : World} {base n : Nat} {v : Value} {zs : List Value} (h : w.ownsRow base 5 1 v (0 + n + 4) zs) : ∃ g c, v = .slice (some ⟨g, 0, none⟩) (n + 4) c ∧ n + 4 ≤ c ∧ c ≤ maxLen := by
  rw [Nat.zero_add] at h
  rcases h.2 with ⟨_, h0⟩ | ⟨g, cap, cur, e, _, _, h1, h2, _⟩
  · omega
  · exact ⟨g, cap, e, h1, h2⟩

/-! ### Bytes with room behind them -/
/-- A slice with the four bytes behind it that tell whether its room was touched. -/
structure Lent (base : Nat) (w : World) (v : Value) (n : Nat) (zs : List Int) : Prop where
  row : ∃ g c, v = .slice (some ⟨g, 0, none⟩) n c ∧ n + 4 ≤ c ∧ c ≤ maxLen ∧ w.ownsRow base 5 1 (.slice (some ⟨g, 0, none⟩) (n + 4) c) (n + 4) ((zs ++ [201, 202, 203, 204]).map (Value.int .u8))
  len : zs.length = n

theorem sl_lit (w : World) (zs : List Int) : Sl (w.alloc (.cells (zs.map (Value.int .u8)).toArray 5)) (some ⟨w.heap.size, 0, none⟩) zs.length zs.length zs := by
  refine ⟨⟨rfl, fun hn => ⟨w.heap.size, 0, rfl, by simp, fun i hi => ?_⟩⟩, Nat.le_refl _, fun h => by cases h⟩
  rw [Nat.zero_add, World.cell?_alloc_new, List.getElem?_toArray, List.getElem?_map, List.getElem?_eq_getElem hi, getD_eq _ _ hi]
  rfl


theorem owns_front {w : World} {base g c n m : Nat} {e : TypeId} {xs ys : List Value} (h : w.ownsRow base e 1 (.slice (some ⟨g, 0, none⟩) m c) m (xs ++ ys)) (hn : xs.length = n) : w.ownsRow base e 1 (.slice (some ⟨g, 0, none⟩) n c) n xs := by
  have hl := h.1
  rw [List.length_append] at hl
  refine ⟨by omega, ?_⟩
  rcases h.2 with ⟨h1, _⟩ | ⟨g', cap, cur, h1, hb, hg, hnc, hcm, hcs, ht⟩
  · cases h1
  · injection h1 with h1 _ h3
    injection h1 with h1
    injection h1 with h1
    subst h1 h3
    refine .inr ⟨g, c, cur, rfl, hb, hg, by omega, hcm, hcs, ?_⟩
    have h2 := congrArg (List.take n) ht
    rw [List.take_take, Nat.min_eq_left (by omega), List.take_left' (by omega)] at h2
    rw [Nat.mul_one]
    exact h2
theorem Lent.own {base : Nat} {w : World} {v : Value} {n : Nat} {zs : List Int} (h : Lent base w v n zs) : w.ownsRow base 5 1 v n (zs.map (Value.int .u8)) := by
  obtain ⟨g, c, rfl, h1, h2, h3⟩ := h.row
  rw [List.map_append] at h3
  exact owns_front h3 (by simpa using h.len)
theorem Lent.bel {base : Nat} {w w' : World} {v : Value} {n : Nat} {zs : List Int} (h : Lent base w v n zs) (hb : Bel w w') : Lent base w' v n zs := by
  obtain ⟨g, c, e, h1, h2, h3⟩ := h.row
  exact ⟨⟨g, c, e, h1, h2, owns_bel h3 hb⟩, h.len⟩
theorem Lent.kep {S : Nat → Prop} {base : Nat} {w w' : World} {v : Value} {n : Nat} {zs : List Int} (h : Lent base w v n zs) (hb : Kep S w w') (hs : ∀ k, v.ownBlock = some k → ¬ S k) : Lent base w' v n zs := by
  obtain ⟨g, c, rfl, h1, h2, h3⟩ := h.row
  exact ⟨⟨g, c, rfl, h1, h2, hb.owns (fun k e => hs k e) h3⟩, h.len⟩
end Cd
end Go.Proofs.YtpohcdfmkcfonaaGreatDoor
