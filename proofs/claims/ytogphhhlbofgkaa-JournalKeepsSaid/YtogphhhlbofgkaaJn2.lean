/-
  What journals answer that turn nothing: valid, check, Get, Depth, Cells; and New. Conditions: the journal lies in memory as JX says.
-/
import Derived.Test.YtogphhhlbofgkaaJn1
namespace Go.Proofs.Ytogphhhlbofgkaa
open Go.RowKit Go.Shelf Go.Maps
set_option linter.unusedVariables false
namespace Jn
open Kk Pm Bk

theorem info_j : ∃ j, Try.prog.info? 49 = some j ∧ j.size = 4 := by
  have h : (Try.prog.info? 49).map (·.size) = some 4 := by kernel_rfl
  cases h2 : Try.prog.info? 49 with
  | none => rw [h2] at h; cases h
  | some j => rw [h2] at h; exact ⟨j, rfl, by simpa using h⟩
theorem jeq (a : Addr) (w : World) : (binOp .eql 23 (.pointer (some a)) (.pointer (some a))).run Try.prog w = .ok (.bool true) w := by
  obtain ⟨j, hj, _⟩ := info_j
  exact run_eql_ptr_same w a Try.underlying23 hj

/-- The number of a value. -/
def iv : Value → Int
  | .int _ q => q
  | _ => 0

section
variable {w : World} {M I : Nat → Prop} {pj : Nat} {zs : List Int} {ls : List (List Ch)} {cb cap : Nat} {nw : Option Addr} {v : Value} {rs : List (Option Addr × Nat)}
theorem JX.c0 (h : JX w M I pj zs ls cb cap nw v rs) : w.cell? ⟨pj, 0, none⟩ = some (.pointer (some ⟨pj, 0, none⟩)) := h.blk.cell 0 rfl
theorem JX.c1 (h : JX w M I pj zs ls cb cap nw v rs) : w.cell? ⟨pj, 1, none⟩ = some (.slice (some ⟨cb, 0, none⟩) zs.length cap) := h.blk.cell 1 rfl
theorem JX.c2 (h : JX w M I pj zs ls cb cap nw v rs) : w.cell? ⟨pj, 2, none⟩ = some (.pointer nw) := h.blk.cell 2 rfl
theorem JX.c3 (h : JX w M I pj zs ls cb cap nw v rs) : w.cell? ⟨pj, 3, none⟩ = some v := h.blk.cell 3 rfl
theorem JX.ci (h : JX w M I pj zs ls cb cap nw v rs) {i : Nat} (hi : i < zs.length) : w.cell? ⟨cb, i, none⟩ = some (.int .u64 (zs.getD i 0)) := by
  rw [h.row.cellAt i (by omega), List.getElem?_map, List.getElem?_eq_getElem hi, Kk.getD_eq _ _ hi]
  rfl
theorem JX.su (h : JX w M I pj zs ls cb cap nw v rs) : SU w (some ⟨cb, 0, none⟩) zs.length cap zs := by
  obtain ⟨A, c, e, hs⟩ := su_of_own h.row
  injection e with e1 e2 e3
  subst e1 e3
  exact hs
theorem JX.vs (h : JX w M I pj zs ls cb cap nw v rs) : ∃ A c, v = .slice A ls.length c ∧ (A = none → ls.length = 0 ∧ c = 0) := by
  have hl := RStack.len ls h.stk
  rcases h.lev with ⟨rfl, rfl⟩ | ⟨g, cp, cur, rfl, r⟩
  · exact ⟨none, 0, by rw [← hl]; rfl, fun _ => ⟨by rw [← hl]; rfl, rfl⟩⟩
  · exact ⟨_, _, by rw [← hl], fun e => by cases e⟩
end

set_option maxRecDepth 100000 in
theorem valid {w : World} {M I : Nat → Prop} {pj : Nat} {zs : List Int} {ls : List (List Ch)} (h : JW w M I pj zs ls) :
    Calls Try.prog 40 #[.pointer (some ⟨pj, 0, none⟩)] w fun e w' => e = .returned (.bool true) ∧ w = w' := by
  obtain ⟨cb, cap, nw, v, rs, h⟩ := h
  have c0 := h.c0
  have hq := jeq ⟨pj, 0, none⟩
  clear h
  go_enter Try.func40, Try.ntmps40
  go_wp2
  go_ret
  exact ⟨rfl, rfl⟩

/-- Are all of these cells? -/
def cellsE (n : Nat) (is : List Int) : Int := if ∀ i ∈ is, 0 ≤ i ∧ i < n then 0 else 3
theorem cellsE_nil (n : Nat) : cellsE n [] = 0 := by unfold cellsE; rw [if_pos]; intro i h; cases h
theorem cellsE_cons (n : Nat) (i : Int) (is : List Int) : cellsE n (i :: is) = if 0 ≤ i ∧ i < n then cellsE n is else 3 := by
  unfold cellsE
  by_cases h : 0 ≤ i ∧ i < n
  · rw [if_pos h]
    by_cases h2 : ∀ i ∈ is, 0 ≤ i ∧ i < n
    · rw [if_pos h2, if_pos]
      intro x hx
      rcases List.mem_cons.1 hx with rfl | hx
      · exact h
      · exact h2 x hx
    · rw [if_neg h2, if_neg]
      exact fun hh => h2 fun x hx => hh x (List.mem_cons_of_mem _ hx)
  · rw [if_neg h, if_neg]
    exact fun hh => h (hh i (by simp))

set_option maxRecDepth 100000 in
set_option maxHeartbeats 1000000 in
theorem check {w : World} {M I : Nat → Prop} {pj : Nat} {zs : List Int} {ls : List (List Ch)} (h : JW w M I pj zs ls) (A : Option Addr) (m c : Nat) (is : List Int) (hi : Ints .i64 w A m is) (hm : m ≤ 1000) :
    Calls Try.prog 45 #[.pointer (some ⟨pj, 0, none⟩), .slice A m c] w fun e w' => e = .returned (.int .i64 (cellsE zs.length is)) ∧ w = w' := by
  have V := Lib.hid (valid h)
  have HI := Lib.hid hi
  have hil := hi.1
  obtain ⟨cb, cap, nw, v, rs, h⟩ := h
  have c1 := h.c1
  have hz := h.most
  clear h hi
  generalize zs.length = n at *
  go_enter Try.func45, Try.ntmps45
  go_wp2_with fail
  refine V.out.mono ?_
  rintro e w1 ⟨rfl, rfl⟩
  go_wp2_with fail
  go_loopw [12] (fun i wr => ∃ k : Nat, k ≤ m ∧ i = .int .i64 k ∧ wr = w ∧ cellsE n is = cellsE n (is.drop k)) (fun i _ => m - (iv i).toNat)
  case atStart => exact ⟨0, Nat.zero_le _, rfl, rfl, rfl⟩
  case round =>
    obtain ⟨k, hk, rfl, rfl, hc⟩ := hrel
    have HC := Lib.hid hc
    clear hc
    by_cases hlt : k < m
    · obtain ⟨b, o, rfl, _, hcell⟩ := HI.out.cell (i := k) hlt
      have hd : is.drop k = is.getD k 0 :: is.drop (k + 1) := by rw [List.drop_eq_getElem_cons (by omega), Kk.getD_eq _ _ (by omega)]
      have HD := Lib.hid hd
      clear hd
      generalize is.getD k 0 = x at *
      by_cases h0 : x < 0
      · have e3 : cellsE n is = 3 := by rw [HC.out, HD.out, cellsE_cons, if_neg (by omega)]
        have E3 := Lib.hid e3
        clear e3
        go_wp2
        go_ret
        exact ⟨by rw [E3.out]; rfl, rfl⟩
      · by_cases h1 : (n : Int) ≤ x
        · have e3 : cellsE n is = 3 := by rw [HC.out, HD.out, cellsE_cons, if_neg (by omega)]
          have E3 := Lib.hid e3
          clear e3
          go_wp2
          go_ret
          exact ⟨by rw [E3.out]; rfl, rfl⟩
        · have h2 : x < n := by omega
          have e3 : cellsE n is = cellsE n (is.drop (k + 1)) := by rw [HC.out, HD.out, cellsE_cons, if_pos ⟨by omega, h2⟩]
          have E3 := Lib.hid e3
          clear e3
          go_wp2
          go_roundw
          case rel => exact ⟨k + 1, by omega, by go_num, trivial, E3.out⟩
          case measure => simp [iv]; omega
    · obtain rfl : k = m := by omega
      have e0 : cellsE n is = 0 := by rw [HC.out, List.drop_eq_nil_of_le (by omega), cellsE_nil]
      have E0 := Lib.hid e0
      clear e0
      go_wp2
      go_ret
      exact ⟨by rw [E0.out]; rfl, rfl⟩
end Jn
end Go.Proofs.Ytogphhhlbofgkaa
