/-
  What strings.SplitAfterSeq answers at a line feed: an iterator over the lines of a text, each with its line feed, the last one without.
  Condition: the text has at most 10^9 bytes.
-/
import Derived.RangeFuncBound
import Derived.RangeFuncCalls
import Derived.RangeFuncLeaves
import Derived.RangeFuncBox
import Derived.OwnWalkIn
import Derived.TacticsInMore
import Derived.LoopNIn
import Derived.LoopIn
import Derived.Lib.IndexLaws
import Derived.Test.YtpohcdfmkcfonaaGreatDoorGPRf
import Derived.Test.YtpohcdfmkcfonaaGreatDoorGShelf
namespace Go.Proofs.YtpohcdfmkcfonaaGreatDoor
open Go.RowKit Go.Shelf
set_option linter.unusedVariables false
attribute [local go_sem] Oper.semAt_some
namespace Pm
open Kk

/-- The lines of a text. -/
def pcs : Nat → List UInt8 → List (List UInt8)
  | 0, l => [l]
  | f + 1, l => if Lib.indexByte l 10 < 0 then [l] else l.take ((Lib.indexByte l 10).toNat + 1) :: pcs f (l.drop ((Lib.indexByte l 10).toNat + 1))
def str (l : List UInt8) : ByteArray := ⟨l.toArray⟩
theorem str_list (l : List UInt8) : (str l).data.toList = l := rfl
theorem str_size (l : List UInt8) : (str l).size = l.length := by show l.toArray.size = _; simp
theorem str_extract (l : List UInt8) (a b : Nat) : (str l).extract a b = str ((l.take b).drop a) := by
  refine ByteArray.ext (Array.toList_inj.1 ?_)
  rw [ByteArray.data_extract, Array.toList_extract]
  show List.extract l a b = _
  rw [List.extract_eq_drop_take']
  rfl
theorem idx_lt {l : List UInt8} {o : Nat} (h : Lib.indexByte l 10 = (o : Int)) : o < l.length := by
  have := (Lib.indexByte_some h).1
  exact (List.getElem?_eq_some_iff.1 this).1
theorem str_to {P : Program} (t : TypeId) (h : P.underlying t = some .string) (l : List UInt8) (j : Nat) (hj : j ≤ l.length) (W : World) : (Instr.slice t (.string (str l)) none (some (.int .i64 (j : Int))) none).run P W = .ok (.string (str (l.take j))) W := by
  rw [run_slice_string_h W t (str l) h .i64 (j : Int) (by omega) (by rw [str_size]; omega), Int.toNat_natCast, str_extract, List.drop_zero]
theorem str_from {P : Program} (t : TypeId) (h : P.underlying t = some .string) (l : List UInt8) (j : Nat) (hj : j ≤ l.length) (W : World) : (Instr.slice t (.string (str l)) (some (.int .i64 (j : Int))) none none).run P W = .ok (.string (str (l.drop j))) W := by
  rw [run_slice_string_l W t (str l) h .i64 (j : Int) (by omega) (by rw [str_size]; omega), Int.toNat_natCast, str_extract, str_size, List.take_length]

/-- The iterator's three boxes: the separator, what is left of the text, how much of a separator is kept. -/
structure Bxs (b1 b2 b3 : Nat) (l : List UInt8) (W : World) : Prop where
  sep : Blk W b1 #[.string ⟨#[10]⟩] 9
  txt : Blk W b2 #[.string (str l)] 9
  sav : Blk W b3 #[.int .i64 1] 3
def KpB (b1 b2 b3 : Nat) (V V' : World) : Prop := ∀ k, k = b1 ∨ k = b2 ∨ k = b3 → V'.heap[k]? = V.heap[k]?
theorem Bxs.keep {b1 b2 b3 : Nat} {l : List UInt8} {V V' : World} (h : Bxs b1 b2 b3 l V) (k : KpB b1 b2 b3 V V') : Bxs b1 b2 b3 l V' := ⟨(k b1 (.inl rfl)).trans h.sep, (k b2 (.inr (.inl rfl))).trans h.txt, (k b3 (.inr (.inr rfl))).trans h.sav⟩
theorem Bxs.bel {b1 b2 b3 : Nat} {l : List UInt8} {V V' : World} (h : Bxs b1 b2 b3 l V) (k : Bel V V') : Bxs b1 b2 b3 l V' := ⟨h.sep.bel k, h.txt.bel k, h.sav.bel k⟩
theorem Bxs.go {b1 b2 b3 : Nat} {l : List UInt8} {V : World} (h : Bxs b1 b2 b3 l V) (h1 : b1 ≠ b2) (h3 : b3 ≠ b2) (l' : List UInt8) : Bxs b1 b2 b3 l' (V.setCell ⟨b2, 0, none⟩ (.string (str l'))) := ⟨h.sep.other h1 0 _, h.txt.set 0 _, h.sav.other h3 0 _⟩
def left (b2 : Nat) (W : World) : Nat := match W.cell? ⟨b2, 0, none⟩ with | some (.string s) => s.size | _ => 0
theorem left_eq {b1 b2 b3 : Nat} {l : List UInt8} {W : World} (h : Bxs b1 b2 b3 l W) : left b2 W = l.length := by
  unfold left
  rw [h.txt.cell 0 rfl]
  exact str_size l

set_option maxRecDepth 100000 in
set_option maxHeartbeats 4000000 in
theorem splits (n l b1 b2 b3 : Nat) (h12 : b1 ≠ b2) (h32 : b3 ≠ b2) (s : List UInt8) (hs : s.length ≤ 1000000000) (J Jx : List (List UInt8) → World → Prop)
    (hJs : ∀ p V v, J p V → J p (V.setCell ⟨b2, 0, none⟩ v))
    (hY : ∀ pre x V, J pre V → pre.length < (pcs s.length s).length → x.length ≤ 1000000000 → YieldAt Fence.wide (n - 1) Tryz.prog l #[.string (str x)] V fun e V' => (e = .returned (.bool true) ∧ J (pre ++ [x]) V' ∧ KpB b1 b2 b3 V V') ∨ (e = .returned (.bool false) ∧ Jx (pre ++ [x]) V'))
    (W : World) (hb : Bxs b1 b2 b3 s W) (h0 : J [] W) :
    CallsIn Fence.wide n Tryz.prog 76 #[.func (.yield l) #[] #[], .pointer (some ⟨b1, 0, none⟩), .pointer (some ⟨b2, 0, none⟩), .pointer (some ⟨b3, 0, none⟩)] W fun e V => (∃ v, e = .returned v) ∧
      ((∃ ys, ys = pcs s.length s ∧ J ys V) ∨ (∃ pre, pre <+: pcs s.length s ∧ Jx pre V)) := by
  refine callsIn_of_wp Tryz.func76 rfl trivial ?_ rfl
  simp only [Tryz.ntmps76, List.size_toArray, List.length_cons, List.length_nil, Nat.reduceAdd, Nat.reduceSub, Array.replicate_succ, Array.replicate_zero, List.push_toArray, List.append_toArray, List.nil_append, List.cons_append]
  have c1 := hb.sep.cell 0 rfl
  gi_wp2_with fail
  gi_loopw [] (fun wr => ∃ (pre : List (List UInt8)) (r : List UInt8) (f : Nat), Bxs b1 b2 b3 r wr ∧ r.length ≤ f ∧ f ≤ s.length ∧ pcs s.length s = pre ++ pcs f r ∧ J pre wr) (fun wr => left b2 wr)
  case atStart => exact ⟨[], s, s.length, hb, Nat.le_refl _, Nat.le_refl _, rfl, h0⟩
  case round =>
    obtain ⟨pre, r, f, hbx, hrf, hfs, hps, hj⟩ := hrel
    have HPS := Lib.hid hps
    have HBX := Lib.hid hbx
    have c1 := hbx.sep.cell 0 (v := .string ⟨#[10]⟩) rfl
    have c2 := hbx.txt.cell 0 (v := .string (str r)) rfl
    have c3 := hbx.sav.cell 0 (v := .int .i64 1) rfl
    have IX := Lib.hid ((callsIn_wide (n := n - 1)).2 (Tryz.strings_Index_one (str r) 10 wr))
    rw [str_list] at IX
    have hlen := congrArg List.length hps
    rw [List.length_append] at hlen
    by_cases hneg : Lib.indexByte r 10 < 0
    · have hl1 : pcs f r = [r] := by
        cases f with
        | zero => rfl
        | succ f => show (if _ then _ else _) = _; rw [if_pos hneg]
      obtain ⟨fn, tmps, assign, body, hy, hR⟩ := hY pre r wr hj (by rw [hlen, hl1]; simp) (by omega)
      have HL := Lib.hid (show pcs s.length s = pre ++ [r] by rw [hps, hl1])
      have HR := Lib.hid hR
      obtain ⟨i, hi⟩ : ∃ i, Lib.indexByte r 10 = i := ⟨_, rfl⟩
      rw [hi] at IX hneg
      clear hi hl1 hlen hps hR hbx
      gi_wp2_with fail
      refine ⟨trivial, fun h => absurd h (by decide), IX.out.mono ?_⟩
      rintro e w' ⟨rfl, rfl⟩
      gi_wp2_with fail
      refine ⟨fun h => absurd h (by decide), HR.out.mono ?_⟩
      rintro e W3 (⟨rfl, hJ3, hk3⟩ | ⟨rfl, hJx3⟩)
      · gi_wp2
        go_end0
        exact ⟨⟨_, rfl⟩, .inl ⟨_, HL.out.symm, hJ3⟩⟩
      · gi_wp2
        go_end0
        exact ⟨⟨_, rfl⟩, .inr ⟨_, by rw [HL.out]; exact List.prefix_refl _, hJx3⟩⟩
    · obtain ⟨o, ho⟩ : ∃ o : Nat, Lib.indexByte r 10 = (o : Int) := ⟨(Lib.indexByte r 10).toNat, by omega⟩
      have hol := idx_lt ho
      obtain ⟨f, rfl⟩ : ∃ g, f = g + 1 := ⟨f - 1, by omega⟩
      have hl1 : pcs (f + 1) r = r.take (o + 1) :: pcs f (r.drop (o + 1)) := by
        show (if _ then _ else _) = _
        rw [if_neg hneg, ho, Int.toNat_natCast]
      obtain ⟨fn, tmps, assign, body, hy, hR⟩ := hY pre (r.take (o + 1)) wr hj (by rw [hlen, hl1]; simp) (by rw [List.length_take]; omega)
      have HR := Lib.hid hR
      have HL := Lib.hid (show pcs s.length s = (pre ++ [r.take (o + 1)]) ++ pcs f (r.drop (o + 1)) by rw [hps, hl1]; simp)
      have S1 : ∀ W, (Instr.slice 9 (.string (str r)) none (some (.int .i64 ((o : Int) + 1))) none).run Tryz.prog W = .ok (.string (str (r.take (o + 1)))) W := fun W => str_to _ Tryz.underlying9 r (o + 1) (by omega) W
      have S2 : ∀ W, (Instr.slice 9 (.string (str r)) (some (.int .i64 ((o : Int) + 1))) none none).run Tryz.prog W = .ok (.string (str (r.drop (o + 1)))) W := fun W => str_from _ Tryz.underlying9 r (o + 1) (by omega) W
      obtain ⟨pc, hpc⟩ : ∃ pc, r.take (o + 1) = pc := ⟨_, rfl⟩
      obtain ⟨rs, hrs⟩ : ∃ rs, r.drop (o + 1) = rs := ⟨_, rfl⟩
      rw [hpc] at S1 hy HR HL
      rw [hrs] at S2 HL
      have HRS := Lib.hid (show rs.length + (o + 1) = r.length by rw [← hrs, List.length_drop]; omega)
      have HO := Lib.hid (show o < 1000000000 ∧ r.length ≤ f + 1 ∧ f + 1 ≤ s.length ∧ o < r.length from ⟨by omega, hrf, hfs, hol⟩)
      rw [ho] at IX
      have ob0 : ¬ (o : Int) < 0 := by omega
      have ob1 : (o : Int) ≤ 1000000000 := by omega
      clear ho hneg hol hl1 hlen hps hR hbx hpc hrs
      gi_wp2_with fail
      refine ⟨trivial, fun h => absurd h (by decide), IX.out.mono ?_⟩
      rintro e w' ⟨rfl, rfl⟩
      gi_wp2_with fail
      refine ⟨fun h => absurd h (by decide), HR.out.mono ?_⟩
      rintro e W3 (⟨rfl, hJ3, hk3⟩ | ⟨rfl, hJx3⟩)
      · have HB3 := Lib.hid (HBX.out.keep hk3)
        have d1 := HB3.out.sep.cell 0 (v := .string ⟨#[10]⟩) rfl
        have d2 := HB3.out.txt.cell 0 (v := .string (str r)) rfl
        have d4 := HB3.out.txt.frozen 0
        have HJ := Lib.hid hJ3
        clear hk3 hJ3 c1 c2 c3
        gi_wp2_with fail
        refine ⟨⟨pre ++ [pc], rs, f, HB3.out.go h12 h32 rs, by have := HO.out; have := HRS.out; omega, by have := HO.out; omega, HL.out, hJs _ _ _ HJ.out⟩, ?_⟩
        rw [left_eq (HB3.out.go h12 h32 rs), left_eq HBX.out]
        have := HRS.out
        omega
      · gi_wp2_with fail
        refine bodyPost_ret (results_none rfl _ _ _) rfl ?_
        exact ⟨⟨_, rfl⟩, .inr ⟨_, by rw [HL.out]; exact ⟨pcs f rs, by simp⟩, hJx3⟩⟩
end Pm
end Go.Proofs.YtpohcdfmkcfonaaGreatDoor
