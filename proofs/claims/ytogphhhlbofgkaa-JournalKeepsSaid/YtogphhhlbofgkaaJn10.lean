/-
  Journals as the document has them: cells, and levels that know what the cells were and which were touched; what Set, Add, Sub, Begin, Keep, Undo, Back make of them. Condition: the journal lies in memory as JD says.
-/
import Derived.Test.YtogphhhlbofgkaaJn9
namespace Go.Proofs.Ytogphhhlbofgkaa
open Go.RowKit Go.Shelf Go.Maps
set_option linter.unusedVariables false
namespace Jn
open Kk Pm Bk

/-- These changes are what the document's levels say. -/
def Doc : List Int → List (List Ch) → List Lv → Prop
  | _, [], [] => True
  | zs, ch :: ls, lv :: L => undoS zs ch = lv.1 ∧ (∀ i, lv.2 i = has1 ch i) ∧ Doc lv.1 ls L
  | _, _, _ => False
theorem Doc.len : ∀ {ls : List (List Ch)} {L : List Lv} {zs : List Int}, Doc zs ls L → ls.length = L.length := by
  intro ls
  induction ls with
  | nil => intro L zs h; cases L with
    | nil => rfl
    | cons a b => exact h.elim
  | cons c ls ih => intro L zs h; cases L with
    | nil => exact h.elim
    | cons a b => simp [ih h.2.2]
theorem doc_put {n : Nat} {zs : List Int} {ls : List (List Ch)} {L : List Lv} (h : Doc zs ls L) (hl : zs.length = n) (hc : ∀ l, ls.head? = some l → Chs n l) (i : Nat) (u : Int) (hi : i < n) : Doc (zs.set i u) (recL ls (i, zs.getD i 0)) (touch L i) := by
  cases ls with
  | nil => cases L with
    | nil => trivial
    | cons a b => exact h.elim
  | cons c ls => cases L with
    | nil => exact h.elim
    | cons a b =>
      obtain ⟨w, t⟩ := a
      refine ⟨?_, fun k => ?_, h.2.2⟩
      · rw [undo_rec1 (hc c rfl) hl i u hi]; exact h.1
      · rw [has1_rec1]
        show (k == i || t k) = _
        rw [show t k = has1 c k from h.2.1 k]
theorem doc_open {zs : List Int} {ls : List (List Ch)} {L : List Lv} (h : Doc zs ls L) : Doc zs ([] :: ls) ((zs, fun _ => false) :: L) := ⟨rfl, fun i => rfl, h⟩
theorem recAll_nil (t : List Ch) : recAll [] t = [] := by
  unfold recAll
  induction t with
  | nil => rfl
  | cons c r ih => exact ih
theorem recAll_cons : ∀ (t l : List Ch) (r : List (List Ch)), recAll (l :: r) t = recs l t :: r := by
  intro t
  induction t with
  | nil => intro l r; rfl
  | cons c t ih => intro l r; exact ih _ _
theorem doc_keep {n : Nat} {zs : List Int} {t : List Ch} {ls : List (List Ch)} {L : List Lv} (h : Doc zs (t :: ls) L) (hl : zs.length = n) (ht : Chs n t) (hc : ∀ l, ls.head? = some l → Chs n l) : Doc zs (recAll ls t) (keepS L) := by
  cases L with
  | nil => exact h.elim
  | cons a b =>
    obtain ⟨w, s⟩ := a
    cases ls with
    | nil => cases b with
      | nil => rw [recAll_nil]; trivial
      | cons a2 b => exact h.2.2.elim
    | cons l ls => cases b with
      | nil => exact h.2.2.elim
      | cons a2 b =>
        obtain ⟨w2, s2⟩ := a2
        rw [recAll_cons]
        have e : undoS zs t = w := h.1
        refine ⟨?_, fun k => ?_, h.2.2.2.2⟩
        · rw [undo_recs ht (hc l rfl) hl, e]; exact h.2.2.1
        · rw [has1_recs]
          show (s k || s2 k) = _
          rw [show s k = has1 t k from h.2.1 k, show s2 k = has1 l k from h.2.2.2.1 k]

/-- A journal in memory, as the document has it. -/
def JD (w : World) (M I : Nat → Prop) (pj : Nat) (zs : List Int) (L : List Lv) : Prop := ∃ ls, JW w M I pj zs ls ∧ Doc zs ls L
theorem JD.keep {S M I : Nat → Prop} {w w' : World} {pj : Nat} {zs : List Int} {L : List Lv} (h : JD w M I pj zs L) (hk : Kep S w w') (h1 : ∀ b, M b → ¬ S b) (h2 : ∀ b, I b → ¬ S b) : JD w' M I pj zs L := by
  obtain ⟨ls, h, hd⟩ := h
  exact ⟨ls, h.keep hk h1 h2, hd⟩
theorem JD.bel {M I : Nat → Prop} {w w' : World} {pj : Nat} {zs : List Int} {L : List Lv} (h : JD w M I pj zs L) (hb : Bel w w') : JD w' M I pj zs L := by
  obtain ⟨ls, h, hd⟩ := h
  exact ⟨ls, h.bel hb, hd⟩
theorem JW.heads {M I : Nat → Prop} {w : World} {pj : Nat} {zs : List Int} {ls : List (List Ch)} (h : JW w M I pj zs ls) : ∀ l, ls.head? = some l → Chs zs.length l := by
  obtain ⟨cb, cap, nw, v, rs, h⟩ := h
  have hs := h.stk
  intro l hl
  cases ls with
  | nil => cases hl
  | cons c ls =>
    cases rs with
    | nil => exact hs.elim
    | cons r rs =>
      injection hl with hl
      rw [← hl]
      exact hs.2.2.1
theorem JW.tail {M I : Nat → Prop} {w : World} {pj : Nat} {zs : List Int} {c : List Ch} {ls : List (List Ch)} (h : JW w M I pj zs (c :: ls)) : ∀ l, ls.head? = some l → Chs zs.length l := by
  obtain ⟨cb, cap, nw, v, rs, h⟩ := h
  have hs := h.stk
  cases rs with
  | nil => exact hs.elim
  | cons r rs =>
    have hs := hs.2.2.2
    intro l hl
    cases ls with
    | nil => cases hl
    | cons c ls =>
      cases rs with
      | nil => exact hs.elim
      | cons r rs =>
        injection hl with hl
        rw [← hl]
        exact hs.2.2.1
theorem JD.facts {M I : Nat → Prop} {w : World} {pj : Nat} {zs : List Int} {L : List Lv} (h : JD w M I pj zs L) : 1 ≤ zs.length ∧ zs.length ≤ 4096 ∧ Words zs ∧ L.length ≤ 65 ∧ (∀ b, M b → b < w.heap.size) ∧ (∀ b, I b → b < w.heap.size) ∧ (∀ b, M b → ¬ I b) := by
  obtain ⟨ls, ⟨cb, cap, nw, v, rs, h⟩, hd⟩ := h
  exact ⟨h.least, h.most, h.words, by rw [← hd.len]; exact h.deep, h.inM, h.ltI, h.apart⟩

/-- put, as the document has it. -/
theorem putD {w : World} {M I : Nat → Prop} {pj : Nat} {zs : List Int} {L : List Lv} (h : JD w M I pj zs L) (i : Nat) (u : Int) (hi : i < zs.length) (h0 : 0 ≤ u) (h1 : u ≤ 18446744073709551615) :
    Calls Try.prog 46 #[.pointer (some ⟨pj, 0, none⟩), .int .i64 i, .int .u64 u] w fun e w' => e = .returned (.tuple #[]) ∧ ∃ I', JD w' M I' pj (zs.set i u) (touch L i) ∧ Step w w' M I M I' := by
  obtain ⟨ls, h, hd⟩ := h
  refine (put h i u hi h0 h1).mono ?_
  rintro e w' ⟨rfl, I', hj, hs⟩
  exact ⟨rfl, I', ⟨_, hj, doc_put hd rfl h.heads i u hi⟩, hs⟩
theorem openD {w : World} {M I : Nat → Prop} {pj : Nat} {zs : List Int} {L : List Lv} (h : JD w M I pj zs L) (hl : L.length ≤ 64) :
    Calls Try.prog 42 #[.pointer (some ⟨pj, 0, none⟩)] w fun e w' => e = .returned (.tuple #[]) ∧ ∃ M', JD w' M' I pj zs ((zs, fun _ => false) :: L) ∧ Step w w' M I M' I := by
  obtain ⟨ls, h, hd⟩ := h
  refine (open_ h (by rw [hd.len]; exact hl)).mono ?_
  rintro e w' ⟨rfl, M', hj, hs⟩
  exact ⟨rfl, M', ⟨_, hj, doc_open hd⟩, hs⟩
theorem keepD {w : World} {M I : Nat → Prop} {pj : Nat} {zs : List Int} {lv : Lv} {L : List Lv} (h : JD w M I pj zs (lv :: L)) :
    Calls Try.prog 67 #[.pointer (some ⟨pj, 0, none⟩)] w fun e w' => e = .returned (.tuple #[]) ∧ ∃ I', JD w' M I' pj zs (keepS (lv :: L)) ∧ Step w w' M I M I' := by
  obtain ⟨ls, h, hd⟩ := h
  cases ls with
  | nil => exact hd.elim
  | cons t ls =>
    refine (keep_ h).mono ?_
    rintro e w' ⟨rfl, I', hj, hs⟩
    exact ⟨rfl, I', ⟨_, hj, doc_keep hd rfl (h.heads t rfl) h.tail⟩, hs⟩
theorem undoD {w : World} {M I : Nat → Prop} {pj : Nat} {zs : List Int} {lv : Lv} {L : List Lv} (h : JD w M I pj zs (lv :: L)) :
    Calls Try.prog 47 #[.pointer (some ⟨pj, 0, none⟩)] w fun e w' => e = .returned (.tuple #[]) ∧ JD w' M I pj lv.1 L ∧ Step w w' M I M I := by
  obtain ⟨ls, h, hd⟩ := h
  cases ls with
  | nil => exact hd.elim
  | cons t ls =>
    refine (undo_ h).mono ?_
    rintro e w' ⟨rfl, hj, hs⟩
    refine ⟨rfl, ⟨ls, ?_, hd.2.2⟩, hs⟩
    rw [← hd.1]
    exact hj
theorem checkD {w : World} {M I : Nat → Prop} {pj : Nat} {zs : List Int} {L : List Lv} (h : JD w M I pj zs L) (A : Option Addr) (m c : Nat) (is : List Int) (hi : Ints .i64 w A m is) (hm : m ≤ 1000) :
    Calls Try.prog 45 #[.pointer (some ⟨pj, 0, none⟩), .slice A m c] w fun e w' => e = .returned (.int .i64 (cellsE zs.length is)) ∧ w = w' := by
  obtain ⟨ls, h, hd⟩ := h
  exact check h A m c is hi hm
theorem getD_ {w : World} {M I : Nat → Prop} {pj : Nat} {zs : List Int} {L : List Lv} (h : JD w M I pj zs L) (i : Int) :
    Calls Try.prog 25 #[.pointer (some ⟨pj, 0, none⟩), .int .i64 i] w fun e w' => e = .returned (.tuple #[.int .u64 (if 0 ≤ i ∧ i < zs.length then zs.getD i.toNat 0 else 0), .int .i64 (inE zs.length i)]) ∧ Bel w w' := by
  obtain ⟨ls, h, hd⟩ := h
  exact get h i
theorem depthD {w : World} {M I : Nat → Prop} {pj : Nat} {zs : List Int} {L : List Lv} (h : JD w M I pj zs L) :
    Calls Try.prog 26 #[.pointer (some ⟨pj, 0, none⟩)] w fun e w' => e = .returned (.int .i64 L.length) ∧ w = w' := by
  obtain ⟨ls, h, hd⟩ := h
  rw [← hd.len]
  exact depth h
theorem cellsD {w : World} {M I : Nat → Prop} {pj : Nat} {zs : List Int} {L : List Lv} (h : JD w M I pj zs L) :
    Calls Try.prog 27 #[.pointer (some ⟨pj, 0, none⟩)] w fun e w' => ∃ v, e = .returned v ∧ Bk.Fresh w w' v zs := by
  obtain ⟨ls, h, hd⟩ := h
  exact cells h
theorem newD (n : Nat) (w : World) (h1 : 1 ≤ n) (h2 : n ≤ 4096) :
    Calls Try.prog 10 #[.int .i64 n] w fun e w' => ∃ M pj, e = .returned (.tuple #[.pointer (some ⟨pj, 0, none⟩), .int .i64 0]) ∧ JD w' M (fun _ => False) pj (List.replicate n 0) [] ∧ Bel w w' ∧ (∀ b, M b → w.heap.size ≤ b) := by
  refine (new_ n w h1 h2).mono ?_
  rintro e w' ⟨M, pj, rfl, hj, hb, hM⟩
  exact ⟨M, pj, rfl, ⟨[], hj, trivial⟩, hb, hM⟩

/-! ### the calls, as functions of the state -/
def setS (zs : List Int) (i : Int) (u : Int) : List Int := if 0 ≤ i ∧ i < zs.length then zs.set i.toNat u else zs
def setL (zs : List Int) (L : List Lv) (i : Int) : List Lv := if 0 ≤ i ∧ i < zs.length then touch L i.toNat else L

set_option maxRecDepth 100000 in
theorem setD {w : World} {M I : Nat → Prop} {pj : Nat} {zs : List Int} {L : List Lv} (h : JD w M I pj zs L) (i : Int) (u : Int) (h0 : 0 ≤ u) (h1 : u ≤ 18446744073709551615) :
    Calls Try.prog 14 #[.pointer (some ⟨pj, 0, none⟩), .int .i64 i, .int .u64 u] w fun e w' => e = .returned (.int .i64 (inE zs.length i)) ∧ ∃ I', JD w' M I' pj (setS zs i u) (setL zs L i) ∧ Step w w' M I M I' := by
  have hb : Bel w (w.alloc (.cells #[.int .i64 i] 3)) := (Bel.refl w).alloc _
  have CK := Lib.hid (checkD (h.bel hb) _ 1 1 [i] (ints_one w i 3) (by omega))
  rw [cellsE_one] at CK
  have HB := Lib.hid hb
  have HJ := Lib.hid h
  by_cases hi : 0 ≤ i ∧ i < zs.length
  · rw [inE_ok hi.1 hi.2] at CK ⊢
    have e1 : setS zs i u = zs.set i.toNat u := by unfold setS; rw [if_pos hi]
    have e2 : setL zs L i = touch L i.toNat := by unfold setL; rw [if_pos hi]
    rw [e1, e2]
    obtain ⟨k, rfl⟩ := Int.eq_ofNat_of_zero_le hi.1
    have PT := Lib.hid (putD (h.bel hb) k u (by omega) h0 h1)
    rw [Int.toNat_natCast]
    clear h hb hi e1 e2
    go_enter Try.func14, Try.ntmps14
    go_wp2_with fail
    refine CK.out.mono ?_
    rintro e w1 ⟨rfl, rfl⟩
    go_wp2_with fail
    refine PT.out.mono ?_
    rintro e w2 ⟨rfl, I', hj, hs⟩
    have H := Lib.hid (And.intro hj hs)
    clear hj hs
    go_wp2
    go_ret
    exact ⟨rfl, I', H.out.1, (Step.of_bel M I HB.out).trans H.out.2⟩
  · rw [inE_no hi] at CK ⊢
    have e1 : setS zs i u = zs := by unfold setS; rw [if_neg hi]
    have e2 : setL zs L i = L := by unfold setL; rw [if_neg hi]
    rw [e1, e2]
    clear h hb hi e1 e2
    go_enter Try.func14, Try.ntmps14
    go_wp2_with fail
    refine CK.out.mono ?_
    rintro e w1 ⟨rfl, rfl⟩
    go_wp2
    go_ret
    exact ⟨rfl, I, HJ.out.bel HB.out, Step.of_bel M I HB.out⟩

/-- What an amount and a number come to: Add's, and Sub's. -/
def addE (a u : Int) : Int := if a + u ≤ 18446744073709551615 then 0 else 12
def subE (a u : Int) : Int := if u ≤ a then 0 else 13
def addS (zs : List Int) (i u : Int) : List Int := if 0 ≤ i ∧ i < zs.length ∧ zs.getD i.toNat 0 + u ≤ 18446744073709551615 then zs.set i.toNat (zs.getD i.toNat 0 + u) else zs
def addL (zs : List Int) (L : List Lv) (i u : Int) : List Lv := if 0 ≤ i ∧ i < zs.length ∧ zs.getD i.toNat 0 + u ≤ 18446744073709551615 then touch L i.toNat else L
def subS (zs : List Int) (i u : Int) : List Int := if 0 ≤ i ∧ i < zs.length ∧ u ≤ zs.getD i.toNat 0 then zs.set i.toNat (zs.getD i.toNat 0 - u) else zs
def subL (zs : List Int) (L : List Lv) (i u : Int) : List Lv := if 0 ≤ i ∧ i < zs.length ∧ u ≤ zs.getD i.toNat 0 then touch L i.toNat else L

/-- step: whatever func is handed in, its answer at the cell's amount being known. -/
theorem step_no {w : World} {M I : Nat → Prop} {pj : Nat} {zs : List Int} {L : List Lv} (h : JD w M I pj zs L) (i : Int) (u : Int) (f : Value) (hi : ¬ (0 ≤ i ∧ i < zs.length)) :
    Calls Try.prog 59 #[.pointer (some ⟨pj, 0, none⟩), .int .i64 i, .int .u64 u, f] w fun e w' => e = .returned (.int .i64 3) ∧ Bel w w' := by
  have hb : Bel w (w.alloc (.cells #[.int .i64 i] 3)) := (Bel.refl w).alloc _
  have CK := Lib.hid (checkD (h.bel hb) _ 1 1 [i] (ints_one w i 3) (by omega))
  rw [cellsE_one, inE_no hi] at CK
  have HB := Lib.hid hb
  clear h hb hi
  go_enter Try.func59, Try.ntmps59
  go_wp2_with fail
  refine CK.out.mono ?_
  rintro e w1 ⟨rfl, rfl⟩
  go_wp2
  go_ret
  exact ⟨rfl, HB.out⟩
set_option maxRecDepth 100000 in
set_option maxHeartbeats 1000000 in
theorem step_yes {w : World} {M I : Nat → Prop} {pj : Nat} {zs : List Int} {L : List Lv} (h : JD w M I pj zs L) (i : Nat) (u : Int) (g : Nat) (r E : Int) (hi : i < zs.length) (hr0 : 0 ≤ r) (hr1 : r ≤ 18446744073709551615)
    (hg : ∀ args w, (callFunc g args).run Try.prog w = .ok (.enter g args) w) (hf : ∀ W, Calls Try.prog g #[.int .u64 (zs.getD i 0), .int .u64 u] W fun e w' => e = .returned (.tuple #[.int .u64 r, .int .i64 E]) ∧ Bel W w') :
    Calls Try.prog 59 #[.pointer (some ⟨pj, 0, none⟩), .int .i64 i, .int .u64 u, .func (.func g) #[] #[]] w fun e w' => e = .returned (.int .i64 E) ∧ ∃ I', JD w' M I' pj (if E = 0 then zs.set i r else zs) (if E = 0 then touch L i else L) ∧ Step w w' M I M I' := by
  have hb : Bel w (w.alloc (.cells #[.int .i64 (i : Int)] 3)) := (Bel.refl w).alloc _
  have CK := Lib.hid (checkD (h.bel hb) _ 1 1 [(i : Int)] (ints_one w i 3) (by omega))
  rw [cellsE_one, inE_ok (by omega) (by omega)] at CK
  have HB := Lib.hid hb
  have HJ := Lib.hid h
  obtain ⟨ls, ⟨cb, cap, nw, v, rs, hx⟩, hd⟩ := h
  have hx1 := hx.bel hb
  have c1 := hx1.c1
  have ck := hx1.ci hi
  have hm := hx.most
  have HF := Lib.hid hf
  have PT := Lib.hid (fun (W : World) (hW : Bel w W) => putD (HJ.out.bel hW) i r hi hr0 hr1)
  have hin : (i : Int) < zs.length := by omega
  clear hb hx hx1 hd hf
  generalize zs.getD i 0 = a at *
  by_cases hE : E = 0
  · subst hE
    rw [if_pos rfl, if_pos rfl]
    go_enter Try.func59, Try.ntmps59
    go_wp2_with fail
    refine CK.out.mono ?_
    rintro e w1 ⟨rfl, rfl⟩
    go_wp2_with fail
    refine (HF.out _).mono ?_
    rintro e w2 ⟨rfl, hb2⟩
    have HB2 := Lib.hid (HB.out.trans hb2)
    clear hb2
    go_wp2_with fail
    refine (PT.out _ HB2.out).mono ?_
    rintro e w3 ⟨rfl, I', hj, hs⟩
    have H := Lib.hid (And.intro hj hs)
    clear hj hs
    go_wp2
    go_ret
    exact ⟨rfl, I', H.out.1, (Step.of_bel M I HB2.out).trans H.out.2⟩
  · have hE2 : (E == 0) = false := by rw [beq_eq_false_iff_ne]; exact hE
    rw [if_neg hE, if_neg hE]
    clear hE
    go_enter Try.func59, Try.ntmps59
    go_wp2_with fail
    refine CK.out.mono ?_
    rintro e w1 ⟨rfl, rfl⟩
    go_wp2_with fail
    refine (HF.out _).mono ?_
    rintro e w2 ⟨rfl, hb2⟩
    have HB2 := Lib.hid (HB.out.trans hb2)
    clear hb2
    go_wp2
    go_ret
    exact ⟨rfl, I, HJ.out.bel HB2.out, Step.of_bel M I HB2.out⟩
end Jn
end Go.Proofs.Ytogphhhlbofgkaa
