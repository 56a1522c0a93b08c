/-
  Journals as the document has them: Add, Sub, Begin, Keep, Undo, Back. Condition: the journal lies in memory as JD says.
-/
import Derived.Test.YtogphhhlbofgkaaJn10
namespace Go.Proofs.Ytogphhhlbofgkaa
open Go.RowKit Go.Shelf Go.Maps
set_option linter.unusedVariables false
namespace Jn
open Kk Pm Bk

def addR (zs : List Int) (i u : Int) : Int := if 0 ≤ i ∧ i < zs.length then addE (zs.getD i.toNat 0) u else 3
def subR (zs : List Int) (i u : Int) : Int := if 0 ≤ i ∧ i < zs.length then subE (zs.getD i.toNat 0) u else 3

theorem add_yes {w : World} {M I : Nat → Prop} {pj : Nat} {zs : List Int} {L : List Lv} (h : JD w M I pj zs L) (i : Nat) (u : Int) (hi : i < zs.length) (h0 : 0 ≤ u) (h1 : u ≤ 18446744073709551615) :
    Calls Try.prog 59 #[.pointer (some ⟨pj, 0, none⟩), .int .i64 i, .int .u64 u, .func (.func 60) #[] #[]] w fun e w' => e = .returned (.int .i64 (addE (zs.getD i 0) u)) ∧ ∃ I', JD w' M I' pj (if zs.getD i 0 + u ≤ 18446744073709551615 then zs.set i (zs.getD i 0 + u) else zs) (if zs.getD i 0 + u ≤ 18446744073709551615 then touch L i else L) ∧ Step w w' M I M I' := by
  have hw := h.facts.2.2.1 i
  have e1 : Fix.amtE (zs.getD i 0 + u) = addE (zs.getD i 0) u := by unfold Fix.amtE addE; split <;> split <;> omega
  refine (step_yes h i u 60 (Fix.amt (zs.getD i 0 + u)) (Fix.amtE (zs.getD i 0 + u)) hi (Fix.amt0 (by omega)) Fix.amt1 (enters_of Try.func60 (by kernel_rfl) rfl) (fun W => Fix.add _ _ W hw.1 hw.2 h0 h1)).mono ?_
  rintro e w' ⟨rfl, I', hj, hs⟩
  refine ⟨by rw [e1], I', ?_, hs⟩
  by_cases hc : zs.getD i 0 + u ≤ 18446744073709551615
  · rw [if_pos hc, if_pos hc]
    obtain ⟨a1, a2⟩ := Fix.amt_of hc
    rw [a1, a2, if_pos rfl, if_pos rfl] at hj
    exact hj
  · rw [if_neg hc, if_neg hc]
    obtain ⟨a1, a2⟩ := Fix.amt_no (P := zs.getD i 0 + u) (by omega)
    rw [a1, a2, if_neg (by decide), if_neg (by decide)] at hj
    exact hj
theorem sub_yes {w : World} {M I : Nat → Prop} {pj : Nat} {zs : List Int} {L : List Lv} (h : JD w M I pj zs L) (i : Nat) (u : Int) (hi : i < zs.length) (h0 : 0 ≤ u) (h1 : u ≤ 18446744073709551615) :
    Calls Try.prog 59 #[.pointer (some ⟨pj, 0, none⟩), .int .i64 i, .int .u64 u, .func (.func 68) #[] #[]] w fun e w' => e = .returned (.int .i64 (subE (zs.getD i 0) u)) ∧ ∃ I', JD w' M I' pj (if u ≤ zs.getD i 0 then zs.set i (zs.getD i 0 - u) else zs) (if u ≤ zs.getD i 0 then touch L i else L) ∧ Step w w' M I M I' := by
  have hw := h.facts.2.2.1 i
  by_cases hc : u ≤ zs.getD i 0
  · refine (step_yes h i u 68 (zs.getD i 0 - u) 0 hi (by omega) (by omega) (enters_of Try.func68 (by kernel_rfl) rfl) (fun W => (Fix.sub_ok _ _ W hw.1 hw.2 h0 hc).mono fun e w' hh => ⟨hh.1, by rw [hh.2]; exact Bel.refl _⟩)).mono ?_
    rintro e w' ⟨rfl, I', hj, hs⟩
    rw [if_pos rfl, if_pos rfl] at hj
    refine ⟨by unfold subE; rw [if_pos hc], I', ?_, hs⟩
    rw [if_pos hc, if_pos hc]
    exact hj
  · refine (step_yes h i u 68 0 13 hi (by decide) (by decide) (enters_of Try.func68 (by kernel_rfl) rfl) (fun W => (Fix.sub_no _ _ W (by omega)).mono fun e w' hh => ⟨hh.1, by rw [hh.2]; exact Bel.refl _⟩)).mono ?_
    rintro e w' ⟨rfl, I', hj, hs⟩
    rw [if_neg (by decide), if_neg (by decide)] at hj
    refine ⟨by unfold subE; rw [if_neg hc], I', ?_, hs⟩
    rw [if_neg hc, if_neg hc]
    exact hj
theorem stepAdd {w : World} {M I : Nat → Prop} {pj : Nat} {zs : List Int} {L : List Lv} (h : JD w M I pj zs L) (i u : Int) (h0 : 0 ≤ u) (h1 : u ≤ 18446744073709551615) :
    Calls Try.prog 59 #[.pointer (some ⟨pj, 0, none⟩), .int .i64 i, .int .u64 u, .func (.func 60) #[] #[]] w fun e w' => e = .returned (.int .i64 (addR zs i u)) ∧ ∃ I', JD w' M I' pj (addS zs i u) (addL zs L i u) ∧ Step w w' M I M I' := by
  by_cases hi : 0 ≤ i ∧ i < zs.length
  · obtain ⟨k, rfl⟩ := Int.eq_ofNat_of_zero_le hi.1
    refine (add_yes h k u (by omega) h0 h1).mono ?_
    rintro e w' ⟨rfl, I', hj, hs⟩
    refine ⟨by unfold addR; rw [if_pos hi, Int.toNat_natCast], I', ?_, hs⟩
    have e1 : addS zs (k : Int) u = if zs.getD k 0 + u ≤ 18446744073709551615 then zs.set k (zs.getD k 0 + u) else zs := by
      unfold addS
      rw [Int.toNat_natCast]
      by_cases hc : zs.getD k 0 + u ≤ 18446744073709551615
      · rw [if_pos ⟨hi.1, hi.2, hc⟩, if_pos hc]
      · rw [if_neg (fun x => hc x.2.2), if_neg hc]
    have e2 : addL zs L (k : Int) u = if zs.getD k 0 + u ≤ 18446744073709551615 then touch L k else L := by
      unfold addL
      rw [Int.toNat_natCast]
      by_cases hc : zs.getD k 0 + u ≤ 18446744073709551615
      · rw [if_pos ⟨hi.1, hi.2, hc⟩, if_pos hc]
      · rw [if_neg (fun x => hc x.2.2), if_neg hc]
    rw [e1, e2]
    exact hj
  · refine (step_no h i u _ hi).mono ?_
    rintro e w' ⟨rfl, hb⟩
    refine ⟨by unfold addR; rw [if_neg hi], I, ?_, Step.of_bel M I hb⟩
    unfold addS addL
    rw [if_neg (fun x => hi ⟨x.1, x.2.1⟩), if_neg (fun x => hi ⟨x.1, x.2.1⟩)]
    exact h.bel hb
theorem stepSub {w : World} {M I : Nat → Prop} {pj : Nat} {zs : List Int} {L : List Lv} (h : JD w M I pj zs L) (i u : Int) (h0 : 0 ≤ u) (h1 : u ≤ 18446744073709551615) :
    Calls Try.prog 59 #[.pointer (some ⟨pj, 0, none⟩), .int .i64 i, .int .u64 u, .func (.func 68) #[] #[]] w fun e w' => e = .returned (.int .i64 (subR zs i u)) ∧ ∃ I', JD w' M I' pj (subS zs i u) (subL zs L i u) ∧ Step w w' M I M I' := by
  by_cases hi : 0 ≤ i ∧ i < zs.length
  · obtain ⟨k, rfl⟩ := Int.eq_ofNat_of_zero_le hi.1
    refine (sub_yes h k u (by omega) h0 h1).mono ?_
    rintro e w' ⟨rfl, I', hj, hs⟩
    refine ⟨by unfold subR; rw [if_pos hi, Int.toNat_natCast], I', ?_, hs⟩
    have e1 : subS zs (k : Int) u = if u ≤ zs.getD k 0 then zs.set k (zs.getD k 0 - u) else zs := by
      unfold subS
      rw [Int.toNat_natCast]
      by_cases hc : u ≤ zs.getD k 0
      · rw [if_pos ⟨hi.1, hi.2, hc⟩, if_pos hc]
      · rw [if_neg (fun x => hc x.2.2), if_neg hc]
    have e2 : subL zs L (k : Int) u = if u ≤ zs.getD k 0 then touch L k else L := by
      unfold subL
      rw [Int.toNat_natCast]
      by_cases hc : u ≤ zs.getD k 0
      · rw [if_pos ⟨hi.1, hi.2, hc⟩, if_pos hc]
      · rw [if_neg (fun x => hc x.2.2), if_neg hc]
    rw [e1, e2]
    exact hj
  · refine (step_no h i u _ hi).mono ?_
    rintro e w' ⟨rfl, hb⟩
    refine ⟨by unfold subR; rw [if_neg hi], I, ?_, Step.of_bel M I hb⟩
    unfold subS subL
    rw [if_neg (fun x => hi ⟨x.1, x.2.1⟩), if_neg (fun x => hi ⟨x.1, x.2.1⟩)]
    exact h.bel hb

theorem addD {w : World} {M I : Nat → Prop} {pj : Nat} {zs : List Int} {L : List Lv} (h : JD w M I pj zs L) (i u : Int) (h0 : 0 ≤ u) (h1 : u ≤ 18446744073709551615) :
    Calls Try.prog 22 #[.pointer (some ⟨pj, 0, none⟩), .int .i64 i, .int .u64 u] w fun e w' => e = .returned (.int .i64 (addR zs i u)) ∧ ∃ I', JD w' M I' pj (addS zs i u) (addL zs L i u) ∧ Step w w' M I M I' := by
  have ST := Lib.hid (stepAdd h i u h0 h1)
  clear h
  go_enter Try.func22, Try.ntmps22
  go_wp2_with fail
  refine ST.out.mono ?_
  rintro e w1 ⟨rfl, I', hj, hs⟩
  have H := Lib.hid (And.intro hj hs)
  clear hj hs
  go_wp2
  go_ret
  exact ⟨rfl, I', H.out.1, H.out.2⟩
theorem subD {w : World} {M I : Nat → Prop} {pj : Nat} {zs : List Int} {L : List Lv} (h : JD w M I pj zs L) (i u : Int) (h0 : 0 ≤ u) (h1 : u ≤ 18446744073709551615) :
    Calls Try.prog 33 #[.pointer (some ⟨pj, 0, none⟩), .int .i64 i, .int .u64 u] w fun e w' => e = .returned (.int .i64 (subR zs i u)) ∧ ∃ I', JD w' M I' pj (subS zs i u) (subL zs L i u) ∧ Step w w' M I M I' := by
  have ST := Lib.hid (stepSub h i u h0 h1)
  clear h
  go_enter Try.func33, Try.ntmps33
  go_wp2_with fail
  refine ST.out.mono ?_
  rintro e w1 ⟨rfl, I', hj, hs⟩
  have H := Lib.hid (And.intro hj hs)
  clear hj hs
  go_wp2
  go_ret
  exact ⟨rfl, I', H.out.1, H.out.2⟩

theorem ints_nil (w : World) : Ints .i64 w none 0 [] := Ints.nil_
/-- How many levels a Begin tells, and its error. -/
def begN (L : List Lv) : Int := if L.length < 64 then L.length + 1 else 0
def begE (L : List Lv) : Int := if L.length < 64 then 0 else 7
def begL (zs : List Int) (L : List Lv) : List Lv := if L.length < 64 then (zs, fun _ => false) :: L else L

section
variable {w : World} {M I : Nat → Prop} {pj : Nat} {zs : List Int} {L : List Lv}
theorem JD.c3 (h : JD w M I pj zs L) : ∃ A c, w.cell? ⟨pj, 3, none⟩ = some (.slice A L.length c) := by
  obtain ⟨ls, ⟨cb, cap, nw, v, rs, h⟩, hd⟩ := h
  obtain ⟨A, c, rfl, _⟩ := h.vs
  exact ⟨A, c, by rw [← hd.len]; exact h.c3⟩
end

set_option maxRecDepth 100000 in
set_option maxHeartbeats 1000000 in
theorem begD {w : World} {M I : Nat → Prop} {pj : Nat} {zs : List Int} {L : List Lv} (h : JD w M I pj zs L) :
    Calls Try.prog 16 #[.pointer (some ⟨pj, 0, none⟩)] w fun e w' => e = .returned (.tuple #[.int .i64 (begN L), .int .i64 (begE L)]) ∧ ∃ M', JD w' M' I pj zs (begL zs L) ∧ Step w w' M I M' I := by
  have CK := Lib.hid (checkD h none 0 0 [] (ints_nil w) (by omega))
  rw [cellsE_nil] at CK
  obtain ⟨A, c, c3⟩ := h.c3
  have hd := h.facts.2.2.2.1
  have HJ := Lib.hid h
  by_cases hl : L.length < 64
  · have OP := Lib.hid (openD h (by omega))
    have e1 : begN L = L.length + 1 := by unfold begN; rw [if_pos hl]
    have e2 : begE L = 0 := by unfold begE; rw [if_pos hl]
    have e3 : begL zs L = (zs, fun _ => false) :: L := by unfold begL; rw [if_pos hl]
    rw [e1, e2, e3]
    clear h e1 e2 e3
    generalize hn : L.length = n at *
    have h1 : (n : Int) < 64 := by omega
    go_enter Try.func16, Try.ntmps16
    go_wp2_with fail
    refine CK.out.mono ?_
    rintro e w1 ⟨rfl, rfl⟩
    go_wp2_with fail
    refine OP.out.mono ?_
    rintro e w2 ⟨rfl, M', hj, hs⟩
    obtain ⟨A2, c2, c32⟩ := hj.c3
    have H := Lib.hid (And.intro hj hs)
    clear hj hs c3
    rw [List.length_cons, hn] at c32
    go_wp2
    go_ret2
    exact ⟨rfl, M', H.out.1, H.out.2⟩
  · have e1 : begN L = 0 := by unfold begN; rw [if_neg hl]
    have e2 : begE L = 7 := by unfold begE; rw [if_neg hl]
    have e3 : begL zs L = L := by unfold begL; rw [if_neg hl]
    rw [e1, e2, e3]
    clear h e1 e2 e3
    generalize hn : L.length = n at *
    have h1 : (64 : Int) ≤ n := by omega
    go_enter Try.func16, Try.ntmps16
    go_wp2_with fail
    refine CK.out.mono ?_
    rintro e w1 ⟨rfl, rfl⟩
    go_wp2
    go_ret2
    exact ⟨rfl, M, HJ.out, Step.refl _ _ _⟩

theorem checkOpen_no {w : World} {M I : Nat → Prop} {pj : Nat} {zs : List Int} (h : JD w M I pj zs []) :
    Calls Try.prog 63 #[.pointer (some ⟨pj, 0, none⟩)] w fun e w' => e = .returned (.int .i64 11) ∧ w = w' := by
  have CK := Lib.hid (checkD h none 0 0 [] (ints_nil w) (by omega))
  rw [cellsE_nil] at CK
  obtain ⟨A, c, c3⟩ := h.c3
  rw [List.length_nil] at c3
  clear h
  go_enter Try.func63, Try.ntmps63
  go_wp2_with fail
  refine CK.out.mono ?_
  rintro e w1 ⟨rfl, rfl⟩
  go_wp2
  go_ret
  exact ⟨rfl, rfl⟩
theorem checkOpen_yes {w : World} {M I : Nat → Prop} {pj : Nat} {zs : List Int} {lv : Lv} {L : List Lv} (h : JD w M I pj zs (lv :: L)) :
    Calls Try.prog 63 #[.pointer (some ⟨pj, 0, none⟩)] w fun e w' => e = .returned (.int .i64 0) ∧ w = w' := by
  have CK := Lib.hid (checkD h none 0 0 [] (ints_nil w) (by omega))
  rw [cellsE_nil] at CK
  obtain ⟨A, c, c3⟩ := h.c3
  rw [List.length_cons] at c3
  generalize L.length = n at *
  have hn : ((n : Int) + 1 == 0) = false := by rw [beq_eq_false_iff_ne]; omega
  clear h
  go_enter Try.func63, Try.ntmps63
  go_wp2_with fail
  refine CK.out.mono ?_
  rintro e w1 ⟨rfl, rfl⟩
  go_wp2
  go_ret
  exact ⟨rfl, rfl⟩

/-- What Undo makes of the cells, and of the levels; the error of Keep and Undo. -/
def undZ (zs : List Int) : List Lv → List Int
  | [] => zs
  | lv :: _ => lv.1
def undL : List Lv → List Lv
  | [] => []
  | _ :: L => L
def opE : List Lv → Int
  | [] => 11
  | _ :: _ => 0
theorem keepDD {w : World} {M I : Nat → Prop} {pj : Nat} {zs : List Int} {L : List Lv} (h : JD w M I pj zs L) :
    Calls Try.prog 39 #[.pointer (some ⟨pj, 0, none⟩)] w fun e w' => e = .returned (.int .i64 (opE L)) ∧ ∃ I', JD w' M I' pj zs (keepS L) ∧ Step w w' M I M I' := by
  cases L with
  | nil =>
    have CO := Lib.hid (checkOpen_no h)
    have HJ := Lib.hid h
    clear h
    show Calls _ _ _ _ fun e w' => e = .returned (.int .i64 11) ∧ ∃ I', JD w' M I' pj zs [] ∧ Step w w' M I M I'
    go_enter Try.func39, Try.ntmps39
    go_wp2_with fail
    refine CO.out.mono ?_
    rintro e w1 ⟨rfl, rfl⟩
    go_wp2
    go_ret
    exact ⟨rfl, I, HJ.out, Step.refl _ _ _⟩
  | cons lv L =>
    have CO := Lib.hid (checkOpen_yes h)
    have KP := Lib.hid (keepD h)
    clear h
    show Calls _ _ _ _ fun e w' => e = .returned (.int .i64 0) ∧ ∃ I', JD w' M I' pj zs (keepS (lv :: L)) ∧ Step w w' M I M I'
    go_enter Try.func39, Try.ntmps39
    go_wp2_with fail
    refine CO.out.mono ?_
    rintro e w1 ⟨rfl, rfl⟩
    go_wp2_with fail
    refine KP.out.mono ?_
    rintro e w2 ⟨rfl, I', hj, hs⟩
    have H := Lib.hid (And.intro hj hs)
    clear hj hs
    go_wp2
    go_ret
    exact ⟨rfl, I', H.out.1, H.out.2⟩
theorem undoDD {w : World} {M I : Nat → Prop} {pj : Nat} {zs : List Int} {L : List Lv} (h : JD w M I pj zs L) :
    Calls Try.prog 36 #[.pointer (some ⟨pj, 0, none⟩)] w fun e w' => e = .returned (.int .i64 (opE L)) ∧ JD w' M I pj (undZ zs L) (undL L) ∧ Step w w' M I M I := by
  cases L with
  | nil =>
    have CO := Lib.hid (checkOpen_no h)
    have HJ := Lib.hid h
    clear h
    show Calls _ _ _ _ fun e w' => e = .returned (.int .i64 11) ∧ JD w' M I pj zs [] ∧ Step w w' M I M I
    go_enter Try.func36, Try.ntmps36
    go_wp2_with fail
    refine CO.out.mono ?_
    rintro e w1 ⟨rfl, rfl⟩
    go_wp2
    go_ret
    exact ⟨rfl, HJ.out, Step.refl _ _ _⟩
  | cons lv L =>
    have CO := Lib.hid (checkOpen_yes h)
    have KP := Lib.hid (undoD h)
    clear h
    show Calls _ _ _ _ fun e w' => e = .returned (.int .i64 0) ∧ JD w' M I pj lv.1 L ∧ Step w w' M I M I
    go_enter Try.func36, Try.ntmps36
    go_wp2_with fail
    refine CO.out.mono ?_
    rintro e w1 ⟨rfl, rfl⟩
    go_wp2_with fail
    refine KP.out.mono ?_
    rintro e w2 ⟨rfl, hj, hs⟩
    have H := Lib.hid (And.intro hj hs)
    clear hj hs
    go_wp2
    go_ret
    exact ⟨rfl, H.out.1, H.out.2⟩

/-- Levels are undone until no more than d are open. -/
def backZ (d : Nat) (zs : List Int) : List Lv → List Int
  | [] => zs
  | lv :: L => if L.length + 1 ≤ d then zs else backZ d lv.1 L
def backL (d : Nat) : List Lv → List Lv
  | [] => []
  | lv :: L => if L.length + 1 ≤ d then lv :: L else backL d L
def backE (L : List Lv) (d : Int) : Int := if 0 ≤ d ∧ d ≤ L.length then 0 else 3
def backZZ (zs : List Int) (L : List Lv) (d : Int) : List Int := if 0 ≤ d ∧ d ≤ L.length then backZ d.toNat zs L else zs
def backLL (L : List Lv) (d : Int) : List Lv := if 0 ≤ d ∧ d ≤ L.length then backL d.toNat L else L
theorem backL_len (d : Nat) : ∀ L : List Lv, d ≤ L.length → (backL d L).length = d := by
  intro L
  induction L with
  | nil => intro h; have : d = 0 := by simpa using h
           subst this; rfl
  | cons lv L ih =>
    intro h
    rw [List.length_cons] at h
    unfold backL
    by_cases hc : L.length + 1 ≤ d
    · rw [if_pos hc, List.length_cons]; omega
    · rw [if_neg hc]; exact ih (by omega)
theorem back_stop {d : Nat} {zs : List Int} {L : List Lv} (h : L.length ≤ d) : backZ d zs L = zs ∧ backL d L = L := by
  cases L with
  | nil => exact ⟨rfl, rfl⟩
  | cons lv L => rw [List.length_cons] at h; unfold backZ backL; rw [if_pos h, if_pos h]; exact ⟨rfl, rfl⟩
theorem back_go {d : Nat} {zs : List Int} {lv : Lv} {L : List Lv} (h : d < L.length + 1) : backZ d zs (lv :: L) = backZ d lv.1 L ∧ backL d (lv :: L) = backL d L := by
  constructor
  · show (if L.length + 1 ≤ d then zs else backZ d lv.1 L) = _
    rw [if_neg (by omega)]
  · show (if L.length + 1 ≤ d then lv :: L else backL d L) = _
    rw [if_neg (by omega)]

/-- How many levels a journal's block tells. -/
def lvN (pj : Nat) (w : World) : Nat := match w.cell? ⟨pj, 3, none⟩ with
  | some (.slice _ n _) => n
  | _ => 0
theorem lvN_of {pj n c : Nat} {A : Option Addr} {w : World} (h : w.cell? ⟨pj, 3, none⟩ = some (.slice A n c)) : lvN pj w = n := by unfold lvN; rw [h]
set_option maxRecDepth 100000 in
set_option maxHeartbeats 1000000 in
theorem backD {w : World} {M I : Nat → Prop} {pj : Nat} {zs : List Int} {L : List Lv} (h : JD w M I pj zs L) (d : Int) :
    Calls Try.prog 15 #[.pointer (some ⟨pj, 0, none⟩), .int .i64 d] w fun e w' => e = .returned (.int .i64 (backE L d)) ∧ JD w' M I pj (backZZ zs L d) (backLL L d) ∧ Step w w' M I M I := by
  have CK := Lib.hid (checkD h none 0 0 [] (ints_nil w) (by omega))
  rw [cellsE_nil] at CK
  obtain ⟨A, c, c3⟩ := h.c3
  have hd := h.facts.2.2.2.1
  have HJ := Lib.hid h
  by_cases hl : 0 ≤ d ∧ d ≤ L.length
  · have e1 : backE L d = 0 := by unfold backE; rw [if_pos hl]
    have e2 : backZZ zs L d = backZ d.toNat zs L := by unfold backZZ; rw [if_pos hl]
    have e3 : backLL L d = backL d.toNat L := by unfold backLL; rw [if_pos hl]
    rw [e1, e2, e3]
    obtain ⟨k, rfl⟩ := Int.eq_ofNat_of_zero_le hl.1
    rw [Int.toNat_natCast]
    have hk : k ≤ L.length := by omega
    have hk2 : (k : Int) ≤ L.length := hl.2
    clear h e1 e2 e3 hl
    generalize hn : L.length = n at *
    go_enter Try.func15, Try.ntmps15
    go_wp2_with fail
    refine CK.out.mono ?_
    rintro e w1 ⟨rfl, rfl⟩
    go_wp2_with fail
    clear c3
    have q1 : decide ((k : Int) < 0) = false := decide_eq_false (by omega)
    have q2 : decide (n < k) = false := decide_eq_false (by omega)
    simp only [q1, q2, Bool.or_false]
    go_loopw [26] (fun s wr => ∃ (zs2 : List Int) (L2 : List Lv), JD wr M I pj zs2 L2 ∧ Step w wr M I M I ∧ k ≤ L2.length ∧ backZ k zs2 L2 = backZ k zs L ∧ backL k L2 = backL k L) (fun s wr => lvN pj wr)
    case atStart => exact ⟨zs, L, HJ.out, Step.refl _ _ _, by omega, rfl, rfl⟩
    case round =>
      obtain ⟨zs2, L2, hj, hs, hk3, ez, el⟩ := hrel
      obtain ⟨A2, c2, c32⟩ := hj.c3
      have hd2 := hj.facts.2.2.2.1
      have H := Lib.hid (And.intro hj (And.intro hs (And.intro ez el)))
      by_cases hc : L2.length ≤ k
      · have hk4 : (L2.length : Int) ≤ k := by omega
        clear hj hs ez el
        generalize hn2 : L2.length = n2 at *
        go_wp2
        go_ret
        obtain ⟨s1, s2⟩ := back_stop (d := k) (zs := zs2) (L := L2) (by rw [hn2]; exact hc)
        refine ⟨rfl, ?_, H.out.2.1⟩
        rw [← H.out.2.2.1, ← H.out.2.2.2, s1, s2]
        exact H.out.1
      · cases L2 with
        | nil => simp at hc
        | cons lv L2 =>
          have UN := Lib.hid (undoD hj)
          clear hj hs ez el
          rw [List.length_cons] at c32 hk3 hc hd2
          generalize hn2 : L2.length = n2 at *
          have hk4 : (k : Int) < (n2 : Int) + 1 := by omega
          go_wp2_with fail
          refine UN.out.mono ?_
          rintro e w2 ⟨rfl, hj, hs⟩
          obtain ⟨A3, c4, c33⟩ := hj.c3
          rw [hn2] at c33
          have H2 := Lib.hid (And.intro hj hs)
          clear hj hs
          go_wp2
          go_roundw
          case rel =>
            obtain ⟨s1, s2⟩ := back_go (d := k) (zs := zs2) (lv := lv) (L := L2) (by omega)
            exact ⟨lv.1, L2, H2.out.1, H.out.2.1.trans H2.out.2, by omega, by rw [← s1]; exact H.out.2.2.1, by rw [← s2]; exact H.out.2.2.2⟩
          case measure => show lvN pj w2 < lvN pj wr; rw [lvN_of c32, lvN_of c33]; omega
  · have e1 : backE L d = 3 := by unfold backE; rw [if_neg hl]
    have e2 : backZZ zs L d = zs := by unfold backZZ; rw [if_neg hl]
    have e3 : backLL L d = L := by unfold backLL; rw [if_neg hl]
    rw [e1, e2, e3]
    clear h e1 e2 e3
    generalize hn : L.length = n at *
    by_cases h0 : d < 0
    · clear hl
      go_enter Try.func15, Try.ntmps15
      go_wp2_with fail
      refine CK.out.mono ?_
      rintro e w1 ⟨rfl, rfl⟩
      go_wp2
      go_ret
      exact ⟨rfl, HJ.out, Step.refl _ _ _⟩
    · have h1 : (n : Int) < d := by omega
      clear hl
      go_enter Try.func15, Try.ntmps15
      go_wp2_with fail
      refine CK.out.mono ?_
      rintro e w1 ⟨rfl, rfl⟩
      go_wp2
      go_ret
      exact ⟨rfl, HJ.out, Step.refl _ _ _⟩
end Jn
end Go.Proofs.Ytogphhhlbofgkaa
