/-
  journal.New, and what journals answer that turn nothing: Get, Depth, Cells. Conditions: the journal lies in memory as JX says.
-/
import Derived.Test.YtogphhhlbofgkaaJn2
namespace Go.Proofs.Ytogphhhlbofgkaa
open Go.RowKit Go.Shelf Go.Maps
set_option linter.unusedVariables false
namespace Jn
open Kk Pm Bk

theorem made_zero (n : Nat) : (madeCells (Value.int .u64 0).cells (n * 1)).toList = (List.replicate n (0 : Int)).map (Value.int .u64) := by
  rw [Nat.mul_one]
  refine List.ext_getElem? fun i => ?_
  rw [Array.getElem?_toList, List.getElem?_map, List.getElem?_replicate]
  show (madeCells #[Value.int .u64 0] n)[i]? = _
  by_cases hi : i < n
  · simp [madeCells, hi, Nat.mod_one]
  · simp [madeCells, hi]
theorem words_zero (n : Nat) : Words (List.replicate n (0 : Int)) := words_of fun z hz => by rw [(List.mem_replicate.1 hz).2]; exact ⟨by decide, by decide⟩

set_option maxRecDepth 100000 in
theorem made (base cb cap : Nat) (zs : List Int) (w : World) (h : w.ownsRow base 31 1 (.slice (some ⟨cb, 0, none⟩) zs.length cap) zs.length (zs.map (Value.int .u64))) (hw : Words zs) (h1 : 1 ≤ zs.length) (h2 : zs.length ≤ 4096) :
    Calls Try.prog 37 #[.slice (some ⟨cb, 0, none⟩) zs.length cap] w fun e w' => e = .returned (.pointer (some ⟨w.heap.size, 0, none⟩)) ∧ JW w' (fun b => b = cb ∨ b = w.heap.size) (fun _ => False) w.heap.size zs [] ∧ Bel w w' := by
  have HR := Lib.hid h
  clear h
  go_enter Try.func37, Try.ntmps37
  go_wp2
  go_ret
  have hlt := (HR.out.lt cb rfl).2
  have hne : w.heap.size ≠ cb := by omega
  refine ⟨rfl, ⟨cb, cap, none, .slice none 0 0, [], ?_⟩, (Bel.refl w).alloc _⟩
  refine { blk := ?_, row := ?_, lev := .inl ⟨rfl, rfl⟩, stk := rfl, one := List.nodup_nil, mj := .inr rfl, mc := .inl rfl, ml := fun g e => (by cases e), mm := fun r hr => (by cases hr), apart := fun b _ => id, inM := ?_, inI := fun b hb => hb.elim, words := hw, least := h1, most := h2, deep := Nat.zero_le _ }
  · exact Blk.new w _ 49
  · exact owns_mono (HR.out.alloc _) (Nat.zero_le _)
  · intro b hb
    rw [World.size_alloc]
    rcases hb with rfl | rfl
    · omega
    · omega

theorem new_no (n : Int) (w : World) (h : n < 1 ∨ 4096 < n) :
    Calls Try.prog 10 #[.int .i64 n] w fun e w' => e = .returned (.tuple #[.pointer none, .int .i64 3]) ∧ w = w' := by
  by_cases h0 : n < 1
  · go_enter Try.func10, Try.ntmps10
    go_wp2
    go_ret2
    exact ⟨rfl, rfl⟩
  · have h1 : 4096 < n := by omega
    clear h
    go_enter Try.func10, Try.ntmps10
    go_wp2
    go_ret2
    exact ⟨rfl, rfl⟩
set_option maxRecDepth 100000 in
theorem new_ (n : Nat) (w : World) (h1 : 1 ≤ n) (h2 : n ≤ 4096) :
    Calls Try.prog 10 #[.int .i64 n] w fun e w' => ∃ M pj, e = .returned (.tuple #[.pointer (some ⟨pj, 0, none⟩), .int .i64 0]) ∧ JW w' M (fun _ => False) pj (List.replicate n 0) [] ∧ Bel w w' ∧ (∀ b, M b → w.heap.size ≤ b) := by
  obtain ⟨i0, hi, hz0, hz1, hz2⟩ := info_parts info_w
  have h3 : (1 : Int) ≤ n := by omega
  have h4 : (n : Int) ≤ 4096 := by omega
  go_enter Try.func10, Try.ntmps10
  go_wp2_with (refine wpList_make_full _ rfl _ _ 45 rfl w.heap.size 31 i0 (.int .u64 0) 1 Try.underlying45 hi hz0 hz1 .i64 .i64 _ _ n rfl rfl rfl rfl (by rw [hz2]; omega) (by unfold maxLen; omega) (Nat.le_refl _) ?_; intro w1 r1 g1)
  rw [made_zero] at r1
  have hl : (List.replicate n (0 : Int)).length = n := by simp
  have B1 := Lib.hid (Bel.grown (Bel.refl w) g1 (fun k e => by cases e))
  have MK := Lib.hid (made w.heap.size w.heap.size n (List.replicate n 0) w1 (by rw [hl]; exact r1) (words_zero n) (by rw [hl]; exact h1) (by rw [hl]; exact h2))
  rw [hl] at MK
  clear r1 g1 hl
  go_wp2_with fail
  refine MK.out.mono ?_
  rintro e w2 ⟨rfl, hj, hb⟩
  have HJ := Lib.hid hj
  have HB := Lib.hid (B1.out.trans hb)
  clear hj
  have hs1 : w.heap.size ≤ w1.heap.size := Below.size B1.out
  generalize w1.heap.size = pj at *
  go_wp2
  go_ret2
  refine ⟨_, pj, rfl, HJ.out, HB.out, fun b hb => ?_⟩
  rcases hb with rfl | rfl
  · exact Nat.le_refl _
  · exact hs1

/-- A slice of one number, or of two, just made. -/
theorem ints_one (w : World) (x : Int) (t : TypeId) : Ints .i64 (w.alloc (.cells #[.int .i64 x] t)) (some ⟨w.heap.size, 0, none⟩) 1 [x] := by
  refine ⟨rfl, fun _ => ⟨w.heap.size, 0, rfl, by simp, fun i hi => ?_⟩⟩
  obtain rfl : i = 0 := by omega
  rw [World.cell?_alloc_new]
  rfl
theorem ints_two (w : World) (x y : Int) (t : TypeId) : Ints .i64 (w.alloc (.cells #[.int .i64 x, .int .i64 y] t)) (some ⟨w.heap.size, 0, none⟩) 2 [x, y] := by
  refine ⟨rfl, fun _ => ⟨w.heap.size, 0, rfl, by simp, fun i hi => ?_⟩⟩
  rw [Nat.zero_add, World.cell?_alloc_new]
  rcases (by omega : i = 0 ∨ i = 1) with rfl | rfl
  · rfl
  · rfl
/-- The check of one cell. -/
def inE (n : Nat) (i : Int) : Int := if 0 ≤ i ∧ i < n then 0 else 3
theorem cellsE_one (n : Nat) (i : Int) : cellsE n [i] = inE n i := by rw [cellsE_cons, cellsE_nil]; rfl
theorem inE_ok {n : Nat} {i : Int} (h : 0 ≤ i) (h2 : i < n) : inE n i = 0 := by unfold inE; rw [if_pos ⟨h, h2⟩]
theorem inE_no {n : Nat} {i : Int} (h : ¬ (0 ≤ i ∧ i < n)) : inE n i = 3 := by unfold inE; rw [if_neg h]

set_option maxRecDepth 100000 in
theorem get {w : World} {M I : Nat → Prop} {pj : Nat} {zs : List Int} {ls : List (List Ch)} (h : JW w M I pj zs ls) (i : Int) :
    Calls Try.prog 25 #[.pointer (some ⟨pj, 0, none⟩), .int .i64 i] w fun e w' => e = .returned (.tuple #[.int .u64 (if 0 ≤ i ∧ i < zs.length then zs.getD i.toNat 0 else 0), .int .i64 (inE zs.length i)]) ∧ Bel w w' := by
  have CK := Lib.hid (check (h.bel ((Bel.refl w).alloc (.cells #[.int .i64 i] 3))) _ 1 1 [i] (ints_one w i 3) (by omega))
  rw [cellsE_one] at CK
  obtain ⟨cb, cap, nw, v, rs, h⟩ := h
  have hz := h.most
  by_cases hi : 0 ≤ i ∧ i < zs.length
  · rw [if_pos hi, inE_ok hi.1 hi.2]
    rw [inE_ok hi.1 hi.2] at CK
    obtain ⟨k, rfl⟩ := Int.eq_ofNat_of_zero_le hi.1
    have hk : k < zs.length := by omega
    have HJ := Lib.hid (h.bel ((Bel.refl w).alloc (.cells #[.int .i64 (k : Int)] 3)))
    clear h hi
    have c1 := HJ.out.c1
    have ck := HJ.out.ci hk
    rw [Int.toNat_natCast]
    generalize zs.getD k 0 = x at *
    generalize zs.length = n at *
    go_enter Try.func25, Try.ntmps25
    go_wp2_with fail
    refine CK.out.mono ?_
    rintro e w1 ⟨rfl, rfl⟩
    go_wp2
    go_ret2
    exact ⟨rfl, (Bel.refl w).alloc _⟩
  · rw [if_neg hi, inE_no hi]
    rw [inE_no hi] at CK
    clear h hi
    go_enter Try.func25, Try.ntmps25
    go_wp2_with fail
    refine CK.out.mono ?_
    rintro e w1 ⟨rfl, rfl⟩
    go_wp2
    go_ret2
    exact ⟨rfl, (Bel.refl w).alloc _⟩

set_option maxRecDepth 100000 in
theorem depth {w : World} {M I : Nat → Prop} {pj : Nat} {zs : List Int} {ls : List (List Ch)} (h : JW w M I pj zs ls) :
    Calls Try.prog 26 #[.pointer (some ⟨pj, 0, none⟩)] w fun e w' => e = .returned (.int .i64 ls.length) ∧ w = w' := by
  have V := Lib.hid (valid h)
  obtain ⟨cb, cap, nw, v, rs, h⟩ := h
  obtain ⟨A, c, rfl, _⟩ := h.vs
  have c3 := h.c3
  clear h
  go_enter Try.func26, Try.ntmps26
  go_wp2_with fail
  refine V.out.mono ?_
  rintro e w1 ⟨rfl, rfl⟩
  go_wp2
  go_ret
  exact ⟨rfl, rfl⟩

set_option maxRecDepth 100000 in
theorem cells {w : World} {M I : Nat → Prop} {pj : Nat} {zs : List Int} {ls : List (List Ch)} (h : JW w M I pj zs ls) :
    Calls Try.prog 27 #[.pointer (some ⟨pj, 0, none⟩)] w fun e w' => ∃ v, e = .returned v ∧ Bk.Fresh w w' v zs := by
  have V := Lib.hid (valid h)
  obtain ⟨cb, cap, nw, v, rs, h⟩ := h
  have c1 := h.c1
  have hm := h.most
  have CL := Lib.hid (cloneWords (some ⟨cb, 0, none⟩) zs.length cap zs w h.su (by omega))
  clear h
  generalize zs.length = n at *
  go_enter Try.func27, Try.ntmps27
  go_wp2_with fail
  refine V.out.mono ?_
  rintro e w1 ⟨rfl, rfl⟩
  go_wp2_with fail
  refine CL.out.mono ?_
  rintro e w2 ⟨u, rfl, hu⟩
  have HU := Lib.hid hu
  clear hu
  go_wp2
  go_ret
  exact ⟨_, rfl, HU.out⟩
end Jn
end Go.Proofs.Ytogphhhlbofgkaa
