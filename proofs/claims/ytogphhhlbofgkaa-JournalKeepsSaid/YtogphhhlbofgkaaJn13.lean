/-
  Move: a level of its own, kept or undone by a deferred func. Condition: the journal lies in memory as JD says, and no more than 64 levels are open.
-/
import Derived.Test.YtogphhhlbofgkaaJn12
import Derived.Defers
namespace Go.Proofs.Ytogphhhlbofgkaa
open Go.RowKit Go.Shelf Go.Maps
set_option linter.unusedVariables false
namespace Jn
open Kk Pm Bk

theorem close_no {w : World} {M I : Nat → Prop} {pj : Nat} {zs : List Int} {lv : Lv} {L : List Lv} (h : JD w M I pj zs (lv :: L)) (b q : Nat) (x : Int) (hc : w.cell? ⟨b, 0, none⟩ = some (.int .i64 x)) (hx : ¬ x = 0) (hq : w.cell? ⟨q, 0, none⟩ = some (.pointer (some ⟨pj, 0, none⟩))) :
    CallsD Try.prog 66 #[.pointer (some ⟨b, 0, none⟩), .pointer (some ⟨q, 0, none⟩)] .returning w fun e u' w' => u' = .returning ∧ e = .returned (.tuple #[]) ∧ JD w' M I pj lv.1 L ∧ Step w w' M I M I := by
  have UN := Lib.hid (undoD h)
  have hx1 : (x != 0) = true := by simpa using hx
  clear h hx
  go_enter_d Try.func66, Try.ntmps66
  go_wp2_with fail
  refine UN.out.mono ?_
  rintro e w1 ⟨rfl, hj, hs⟩
  have H := Lib.hid (And.intro hj hs)
  clear hj hs
  go_wp2
  refine bodyPost_ret (results_none rfl _ _ _) rfl ?_
  exact ⟨rfl, H.out.1, H.out.2⟩
theorem close_ok {w : World} {M I : Nat → Prop} {pj : Nat} {zs : List Int} {lv : Lv} {L : List Lv} (h : JD w M I pj zs (lv :: L)) (b q : Nat) (hc : w.cell? ⟨b, 0, none⟩ = some (.int .i64 0)) (hq : w.cell? ⟨q, 0, none⟩ = some (.pointer (some ⟨pj, 0, none⟩))) :
    CallsD Try.prog 66 #[.pointer (some ⟨b, 0, none⟩), .pointer (some ⟨q, 0, none⟩)] .returning w fun e u' w' => u' = .returning ∧ e = .returned (.tuple #[]) ∧ ∃ I', JD w' M I' pj zs (keepS (lv :: L)) ∧ Step w w' M I M I' := by
  have UN := Lib.hid (keepD h)
  clear h
  go_enter_d Try.func66, Try.ntmps66
  go_wp2_with fail
  refine UN.out.mono ?_
  rintro e w1 ⟨rfl, I', hj, hs⟩
  have H := Lib.hid (And.intro hj hs)
  clear hj hs
  go_wp2
  go_end0
  exact ⟨rfl, I', H.out.1, H.out.2⟩
theorem load_err {w : World} {b : Nat} {x : Int} (hc : w.cell? ⟨b, 0, none⟩ = some (.int .i64 x)) : (loadVar 24 ⟨b, 0, none⟩).run Try.prog w = .ok (.int .i64 x) w := by
  simp [loadVar, Try.isAgg24, go_sem, hc]
theorem leave_err (tmps : Array Value) (W : World) (b : Nat) (x : Int) (R : Ending → World → Prop) (h8 : tmps.getD 8 undef = .pointer (some ⟨b, 0, none⟩)) (hc : W.cell? ⟨b, 0, none⟩ = some (.int .i64 x)) (hR : R (.returned (.int .i64 x)) W) : Leaves Try.prog Try.f31 tmps R [] .returning W :=
  ⟨_, res_c Try.results31 tmps W ⟨b, 0, none⟩ (.int .i64 x) h8 (load_err hc), hR⟩

/-- Move's error, and what it makes of cells and levels. -/
def movE (zs : List Int) (i k u : Int) : Int :=
  if 0 ≤ i ∧ i < zs.length ∧ 0 ≤ k ∧ k < zs.length then if i = k then 2 else if u ≤ zs.getD i.toNat 0 then if zs.getD k.toNat 0 + u ≤ 18446744073709551615 then 0 else 12 else 13 else 3
def movS (zs : List Int) (i k u : Int) : List Int := if movE zs i k u = 0 then (zs.set i.toNat (zs.getD i.toNat 0 - u)).set k.toNat (zs.getD k.toNat 0 + u) else zs
def movL (zs : List Int) (L : List Lv) (i k u : Int) : List Lv := if movE zs i k u = 0 then touch (touch L i.toNat) k.toNat else L
theorem cellsE_two (n : Nat) (i k : Int) : cellsE n [i, k] = if 0 ≤ i ∧ i < n ∧ 0 ≤ k ∧ k < n then 0 else 3 := by
  rw [cellsE_cons, cellsE_one]
  unfold inE
  by_cases h1 : 0 ≤ i ∧ i < n
  · rw [if_pos h1]
    by_cases h2 : 0 ≤ k ∧ k < n
    · rw [if_pos h2, if_pos ⟨h1.1, h1.2, h2.1, h2.2⟩]
    · rw [if_neg h2, if_neg (fun h => h2 ⟨h.2.2.1, h.2.2.2⟩)]
  · rw [if_neg h1, if_neg (fun h => h1 ⟨h.1, h.2.1⟩)]
theorem keep_touch (zs : List Int) (L : List Lv) (i k : Nat) : keepS (touch (touch ((zs, fun _ => false) :: L) i) k) = touch (touch L i) k := by
  cases L with
  | nil => rfl
  | cons a b =>
    obtain ⟨w, t⟩ := a
    show ((w, fun x => (x == k || (x == i || false)) || t x) :: b : List Lv) = (w, fun x => x == k || (x == i || t x)) :: b
    have : (fun x : Nat => (x == k || (x == i || false)) || t x) = (fun x => x == k || (x == i || t x)) := by
      funext x
      cases (x == k) <;> cases (x == i) <;> simp
    rw [this]
/-- What Move says: its blocks are the journal's own, or new. -/
def MovR (w : World) (M I : Nat → Prop) (pj : Nat) (zs : List Int) (L : List Lv) (i k u : Int) (e : Ending) (w' : World) : Prop :=
  e = .returned (.int .i64 (movE zs i k u)) ∧ ∃ M' I', JD w' M' I' pj (movS zs i k u) (movL zs L i k u) ∧ Step w w' M I M' I'
theorem mov_no {w w' : World} {M I M' I' : Nat → Prop} {pj : Nat} {zs : List Int} {L : List Lv} {i k u : Int} {x : Int} (h : movE zs i k u = x) (hx : ¬ x = 0) (hj : JD w' M' I' pj zs L) (hs : Step w w' M I M' I') : MovR w M I pj zs L i k u (.returned (.int .i64 x)) w' := by
  refine ⟨by rw [h], M', I', ?_, hs⟩
  unfold movS movL
  rw [if_neg (by rw [h]; exact hx), if_neg (by rw [h]; exact hx)]
  exact hj
/-- These blocks are not among them. -/
def Fr (q : Nat) (A : Nat → Prop) : Prop := ∀ b, A b → b ≠ q ∧ b ≠ q + 1
theorem Fr.m {q : Nat} {w w' : World} {M I M' I' : Nat → Prop} (hs : Step w w' M I M' I') (h : Fr q M) (hq : q + 1 < w.heap.size) : Fr q M' := fun b hb => by
  rcases hs.m b hb with h' | h'
  · exact h b h'
  · omega
theorem Fr.i {q : Nat} {w w' : World} {M I M' I' : Nat → Prop} (hs : Step w w' M I M' I') (h : Fr q I) (hq : q + 1 < w.heap.size) : Fr q I' := fun b hb => by
  rcases hs.i b hb with h' | h'
  · exact h b h'
  · omega
/-- The result's cell is written. -/
theorem JD.err {w : World} {M I : Nat → Prop} {pj q : Nat} {zs : List Int} {L : List Lv} (h : JD w M I pj zs L) (fm : Fr q M) (fi : Fr q I) (v : Value) : JD (w.setCell ⟨q + 1, 0, none⟩ v) M I pj zs L :=
  h.keep (S := fun b => b = q + 1) (Kep.set_self (Kep.refl _ _) _ _) (fun b hb => (fm b hb).2) (fun b hb => (fi b hb).2)
theorem Step.err {w w' : World} {M I M' I' : Nat → Prop} {q : Nat} (h : Step w w' M I M' I') (hq : w.heap.size ≤ q) (v : Value) : Step w (w'.setCell ⟨q + 1, 0, none⟩ v) M I M' I' := by
  refine ⟨?_, h.m, h.i, h.s⟩
  have k : Kep (fun b => b = q + 1) w' (w'.setCell ⟨q + 1, 0, none⟩ v) := Kep.set_self (Kep.refl _ _) _ _
  exact ⟨k.os.trans h.kep.os, k.tape.trans h.kep.tape, k.output.trans h.kep.output, Nat.le_trans h.kep.size k.size, fun b hb hm => (k.block b (Nat.lt_of_lt_of_le hb h.kep.size) (fun e => by omega)).trans (h.kep.block b hb hm)⟩
/-- The blocks of Move's own: its journal's, and its result's. -/
def Own2 (w : World) (q pj : Nat) (x : Int) : Prop := Blk w q #[.pointer (some ⟨pj, 0, none⟩)] 23 ∧ Blk w (q + 1) #[.int .i64 x] 24
theorem Own2.err {w : World} {q pj : Nat} {x : Int} (h : Own2 w q pj x) (y : Int) : Own2 (w.setCell ⟨q + 1, 0, none⟩ (.int .i64 y)) q pj y := ⟨h.1.other (by omega) _ _, h.2.set 0 _⟩
theorem Own2.step {w w' : World} {q pj : Nat} {x : Int} {M I M' I' : Nat → Prop} (h : Own2 w q pj x) (hs : Step w w' M I M' I') (fm : Fr q M) : Own2 w' q pj x := ⟨h.1.kep hs.kep (fun hm => (fm _ hm).1 rfl), h.2.kep hs.kep (fun hm => (fm _ hm).2 rfl)⟩
theorem Own2.lt {w : World} {q pj : Nat} {x : Int} (h : Own2 w q pj x) : q + 1 < w.heap.size := h.2.lt

set_option maxRecDepth 100000 in
set_option maxHeartbeats 4000000 in
theorem moveD {w : World} {M I : Nat → Prop} {pj : Nat} {zs : List Int} {L : List Lv} (h : JD w M I pj zs L) (hl : L.length ≤ 64) (i k u : Int) (h0 : 0 ≤ u) (h1 : u ≤ 18446744073709551615) :
    Calls Try.prog 31 #[.pointer (some ⟨pj, 0, none⟩), .int .i64 i, .int .i64 k, .int .u64 u] w (MovR w M I pj zs L i k u) := by
  obtain ⟨q, hq⟩ : ∃ q, w.heap.size = q := ⟨_, rfl⟩
  obtain ⟨W0, hW0⟩ : ∃ W0, (w.alloc (.cells #[.pointer (some ⟨pj, 0, none⟩)] 23)).alloc (.cells #[.int .i64 0] 24) = W0 := ⟨_, rfl⟩
  have b0 : Bel w W0 := by rw [← hW0]; exact ((Bel.refl w).alloc _).alloc _
  have bq : Blk W0 q #[.pointer (some ⟨pj, 0, none⟩)] 23 := by rw [← hW0, ← hq]; exact (Blk.new w _ _).alloc _
  have be : Blk W0 (q + 1) #[.int .i64 0] 24 := by
    rw [← hW0, ← hq]
    have := Blk.new (w.alloc (.cells #[.pointer (some ⟨pj, 0, none⟩)] 23)) #[.int .i64 0] 24
    rwa [World.size_alloc] at this
  have b1 : Bel W0 (W0.alloc (.cells #[.int .i64 i, .int .i64 k] 3)) := (Bel.refl W0).alloc _
  have CK := Lib.hid (checkD (h.bel (b0.trans b1)) _ 2 2 [i, k] (ints_two W0 i k 3) (by omega))
  have HJ := Lib.hid h
  have HB0 := Lib.hid b0
  have BQ := Lib.hid bq
  have BE := Lib.hid be
  have HB1 := Lib.hid b1
  have HMQ := Lib.hid (show ∀ b, M b → b < q from by rw [← hq]; exact h.facts.2.2.2.2.1)
  have HW := Lib.hid hW0
  have HQ := Lib.hid hq
  have cq1 := (bq.bel b1).cell 0 rfl
  have ce1 := (be.bel b1).cell 0 rfl
  have fe1 := (be.bel b1).frozen 0
  have cq := bq.cell 0 rfl
  have hmf : ∀ (fn : Fn) (first cap : Array Value) (w : World), (Instr.makeFunc fn first cap).run Try.prog w = .ok (.func fn first cap) w := fun _ _ _ _ => rfl
  clear h b0 bq be b1 hW0 hq
  go_enter_defers Try.func31, Try.ntmps31
  go_upto_region 1 with fail
  rw [HQ.out, HW.out]
  go_wp2_with fail
  refine CK.out.mono ?_
  rintro e w1 ⟨rfl, rfl⟩
  clear cq
  obtain ⟨W1, hW1⟩ : ∃ W1, W0.alloc (Obj.cells #[Value.int IntKind.i64 i, Value.int IntKind.i64 k] 3) = W1 := ⟨_, rfl⟩
  rw [hW1] at cq1 ce1 fe1 HB1
  rw [hW1]
  have FM := Lib.hid (show Fr q M from fun b hb => by have := HMQ.out b hb; omega)
  have FI := Lib.hid (show Fr q I from fun b hb => by have := HJ.out.facts.2.2.2.2.2.1 b hb; rw [HQ.out] at this; omega)
  have OW1 := Lib.hid (show Own2 W1 q pj 0 from ⟨BQ.out.bel HB1.out, BE.out.bel HB1.out⟩)
  have HB := Lib.hid (HB0.out.trans HB1.out)
  have HQ2 := Lib.hid (show w.heap.size ≤ q by rw [HQ.out]; exact Nat.le_refl _)
  clear hW1 CK HMQ BQ BE HB0 HB1 HW
  by_cases hin : 0 ≤ i ∧ i < zs.length ∧ 0 ≤ k ∧ k < zs.length
  · have e0 : cellsE zs.length [i, k] = 0 := by rw [cellsE_two, if_pos hin]
    rw [e0]
    have HIN := Lib.hid hin
    clear e0 hin
    by_cases hik : i = k
    · subst hik
      have HE := Lib.hid (show movE zs i i u = 2 by unfold movE; rw [if_pos HIN.out, if_pos rfl])
      go_wp2_with fail
      show Leaves _ _ _ _ _ _ _
      refine leave_err _ _ (q + 1) 2 _ rfl ?_ ?_
      · exact ((OW1.out.err 0).err 2).2.cell 0 rfl
      · exact mov_no HE.out (by decide) (((HJ.out.bel HB.out).err FM.out FI.out _).err FM.out FI.out _) (((Step.of_bel M I HB.out).err HQ2.out _).err HQ2.out _)
    · have hik2 : (i == k) = false := by rw [beq_eq_false_iff_ne]; exact hik
      have HIK := Lib.hid hik
      clear hik
      go_upto_region 5 with fail
      obtain ⟨W2, hW2⟩ : ∃ W2, W1.setCell ⟨q + 1, 0, none⟩ (.int .i64 0) = W2 := ⟨_, rfl⟩
      have OW2 := Lib.hid (show Own2 W2 q pj 0 by rw [← hW2]; exact OW1.out.err 0)
      have J2 := Lib.hid (show JD W2 M I pj zs L by rw [← hW2]; exact (HJ.out.bel HB.out).err FM.out FI.out _)
      have S2 := Lib.hid (show Step w W2 M I M I by rw [← hW2]; exact (Step.of_bel M I HB.out).err HQ2.out _)
      rw [hW2]
      clear hW2 cq1 ce1 fe1 OW1
      have cq := OW2.out.1.cell 0 rfl
      have OP := Lib.hid (openD J2.out hl)
      go_wp2_with fail
      refine OP.out.mono ?_
      rintro e W3 ⟨rfl, M3, hj3, hs3⟩
      have FM3 := Lib.hid (Fr.m hs3 FM.out OW2.out.lt)
      have OW3 := Lib.hid (OW2.out.step hs3 FM.out)
      have J3 := Lib.hid hj3
      have S3 := Lib.hid (S2.out.trans hs3)
      have SB := Lib.hid (subD hj3 i u h0 h1)
      clear hj3 hs3 OP cq J2 S2
      have cq := OW3.out.1.cell 0 rfl
      have ce := OW3.out.2.cell 0 rfl
      have fe := OW3.out.2.frozen 0
      go_wp2_with fail
      refine SB.out.mono ?_
      rintro e W4 ⟨rfl, I4, hj4, hs4⟩
      have FI4 := Lib.hid (Fr.i hs4 FI.out OW3.out.lt)
      have OW4 := Lib.hid (OW3.out.step hs4 FM3.out)
      have J4 := Lib.hid hj4
      have S4 := Lib.hid (S3.out.trans hs4)
      clear hj4 hs4 SB cq ce fe J3 S3 OW2
      have cq := OW4.out.1.cell 0 rfl
      have ce := OW4.out.2.cell 0 rfl
      have fe := OW4.out.2.frozen 0
      have hz0 : 0 ≤ i ∧ i < zs.length := ⟨HIN.out.1, HIN.out.2.1⟩
      by_cases hsu : u ≤ zs.getD i.toNat 0
      · have e0 : subR zs i u = 0 := by unfold subR subE; rw [if_pos hz0, if_pos hsu]
        have e1 : subS zs i u = zs.set i.toNat (zs.getD i.toNat 0 - u) := by unfold subS; rw [if_pos ⟨hz0.1, hz0.2, hsu⟩]
        have e2 : subL zs ((zs, fun _ => false) :: L) i u = touch ((zs, fun _ => false) :: L) i.toNat := by unfold subL; rw [if_pos ⟨hz0.1, hz0.2, hsu⟩]
        rw [e0]
        rw [e1, e2] at J4
        have HSU := Lib.hid hsu
        clear e0 e1 e2 hsu hz0
        go_upto_region 8 with fail
        obtain ⟨W5, hW5⟩ : ∃ W5, W4.setCell ⟨q + 1, 0, none⟩ (.int .i64 0) = W5 := ⟨_, rfl⟩
        have OW5 := Lib.hid (show Own2 W5 q pj 0 by rw [← hW5]; exact OW4.out.err 0)
        have J5 := Lib.hid (show JD W5 M3 I4 pj (zs.set i.toNat (zs.getD i.toNat 0 - u)) (touch ((zs, fun _ => false) :: L) i.toNat) by rw [← hW5]; exact J4.out.err FM3.out FI4.out _)
        have S5 := Lib.hid (show Step w W5 M I M3 I4 by rw [← hW5]; exact S4.out.err HQ2.out _)
        rw [hW5]
        clear hW5 cq ce fe OW4 J4 S4 OW3
        have cq := OW5.out.1.cell 0 rfl
        have ce := OW5.out.2.cell 0 rfl
        have fe := OW5.out.2.frozen 0
        have AD := Lib.hid (addD J5.out k u h0 h1)
        go_wp2_with fail
        refine AD.out.mono ?_
        rintro e W6 ⟨rfl, I6, hj6, hs6⟩
        have FI6 := Lib.hid (Fr.i hs6 FI4.out OW5.out.lt)
        have OW6 := Lib.hid (OW5.out.step hs6 FM3.out)
        have J6 := Lib.hid hj6
        have S6 := Lib.hid (S5.out.trans hs6)
        clear hj6 hs6 AD cq ce fe J5 S5 OW5
        have cq := OW6.out.1.cell 0 rfl
        have ce := OW6.out.2.cell 0 rfl
        have fe := OW6.out.2.frozen 0
        have hget : (zs.set i.toNat (zs.getD i.toNat 0 - u)).getD k.toNat 0 = zs.getD k.toNat 0 := by
          rw [get_set, if_neg]
          have := HIN.out
          have := HIK.out
          rintro ⟨e, _⟩
          omega
        have hlen : (zs.set i.toNat (zs.getD i.toNat 0 - u)).length = zs.length := by simp
        have hz0 : 0 ≤ k ∧ k < zs.length := ⟨HIN.out.2.2.1, HIN.out.2.2.2⟩
        by_cases hsa : zs.getD k.toNat 0 + u ≤ 18446744073709551615
        · have e0 : addR (zs.set i.toNat (zs.getD i.toNat 0 - u)) k u = 0 := by unfold addR addE; rw [hlen, if_pos hz0, hget, if_pos hsa]
          have e1 : addS (zs.set i.toNat (zs.getD i.toNat 0 - u)) k u = (zs.set i.toNat (zs.getD i.toNat 0 - u)).set k.toNat (zs.getD k.toNat 0 + u) := by unfold addS; rw [hlen, hget, if_pos ⟨hz0.1, hz0.2, hsa⟩]
          have e2 : addL (zs.set i.toNat (zs.getD i.toNat 0 - u)) (touch ((zs, fun _ => false) :: L) i.toNat) k u = touch (touch ((zs, fun _ => false) :: L) i.toNat) k.toNat := by unfold addL; rw [hlen, hget, if_pos ⟨hz0.1, hz0.2, hsa⟩]
          have HE := Lib.hid (show movE zs i k u = 0 by unfold movE; rw [if_pos HIN.out, if_neg HIK.out, if_pos HSU.out, if_pos hsa])
          rw [e0]
          rw [e1, e2] at J6
          clear e0 e1 e2 hsa hz0 hget hlen
          go_wp2_with fail
          show Leaves _ _ _ _ _ _ _
          have O7 := OW6.out.err 0
          have J7 := J6.out.err FM3.out FI6.out (.int .i64 0)
          have S7 := S6.out.err HQ2.out (.int .i64 0)
          refine leaves_cons (f := 66) (args := #[.pointer (some ⟨q + 1, 0, none⟩), .pointer (some ⟨q, 0, none⟩)]) (by simp) (by simp [go_sem]) ?_
          refine (close_ok J7 (q + 1) q (O7.2.cell 0 rfl) (O7.1.cell 0 rfl)).mono ?_
          rintro e u' w'' ⟨rfl, rfl, I8, hj8, hs8⟩
          refine leave_err _ _ (q + 1) 0 _ rfl ((O7.step hs8 FM3.out).2.cell 0 rfl) ?_
          refine ⟨by rw [HE.out], M3, I8, ?_, S7.trans hs8⟩
          unfold movS movL
          rw [if_pos HE.out, if_pos HE.out, ← keep_touch zs L]
          exact hj8
        · have e0 : addR (zs.set i.toNat (zs.getD i.toNat 0 - u)) k u = 12 := by unfold addR addE; rw [hlen, if_pos hz0, hget, if_neg hsa]
          have e1 : addS (zs.set i.toNat (zs.getD i.toNat 0 - u)) k u = zs.set i.toNat (zs.getD i.toNat 0 - u) := by unfold addS; rw [hlen, hget, if_neg (fun x => hsa x.2.2)]
          have e2 : addL (zs.set i.toNat (zs.getD i.toNat 0 - u)) (touch ((zs, fun _ => false) :: L) i.toNat) k u = touch ((zs, fun _ => false) :: L) i.toNat := by unfold addL; rw [hlen, hget, if_neg (fun x => hsa x.2.2)]
          have HE := Lib.hid (show movE zs i k u = 12 by unfold movE; rw [if_pos HIN.out, if_neg HIK.out, if_pos HSU.out, if_neg hsa])
          rw [e0]
          rw [e1, e2] at J6
          clear e0 e1 e2 hsa hz0 hget hlen
          go_wp2_with fail
          show Leaves _ _ _ _ _ _ _
          have O7 := OW6.out.err 12
          have J7 := J6.out.err FM3.out FI6.out (.int .i64 12)
          have S7 := S6.out.err HQ2.out (.int .i64 12)
          refine leaves_cons (f := 66) (args := #[.pointer (some ⟨q + 1, 0, none⟩), .pointer (some ⟨q, 0, none⟩)]) (by simp) (by simp [go_sem]) ?_
          refine (close_no J7 (q + 1) q 12 (O7.2.cell 0 rfl) (by decide) (O7.1.cell 0 rfl)).mono ?_
          rintro e u' w'' ⟨rfl, rfl, hj8, hs8⟩
          exact leave_err _ _ (q + 1) 12 _ rfl ((O7.step hs8 FM3.out).2.cell 0 rfl) (mov_no HE.out (by decide) hj8 (S7.trans hs8))
      · have e0 : subR zs i u = 13 := by unfold subR subE; rw [if_pos hz0, if_neg hsu]
        have e1 : subS zs i u = zs := by unfold subS; rw [if_neg (fun x => hsu x.2.2)]
        have e2 : subL zs ((zs, fun _ => false) :: L) i u = (zs, fun _ => false) :: L := by unfold subL; rw [if_neg (fun x => hsu x.2.2)]
        have HE := Lib.hid (show movE zs i k u = 13 by unfold movE; rw [if_pos HIN.out, if_neg HIK.out, if_neg hsu])
        rw [e0]
        rw [e1, e2] at J4
        clear e0 e1 e2 hsu hz0
        go_wp2_with fail
        show Leaves _ _ _ _ _ _ _
        have O7 := OW4.out.err 13
        have J7 := J4.out.err FM3.out FI4.out (.int .i64 13)
        have S7 := S4.out.err HQ2.out (.int .i64 13)
        refine leaves_cons (f := 66) (args := #[.pointer (some ⟨q + 1, 0, none⟩), .pointer (some ⟨q, 0, none⟩)]) (by simp) (by simp [go_sem]) ?_
        refine (close_no J7 (q + 1) q 13 (O7.2.cell 0 rfl) (by decide) (O7.1.cell 0 rfl)).mono ?_
        rintro e u' w'' ⟨rfl, rfl, hj8, hs8⟩
        exact leave_err _ _ (q + 1) 13 _ rfl ((O7.step hs8 FM3.out).2.cell 0 rfl) (mov_no HE.out (by decide) hj8 (S7.trans hs8))
  · have e0 : cellsE zs.length [i, k] = 3 := by rw [cellsE_two, if_neg hin]
    have HE := Lib.hid (show movE zs i k u = 3 by unfold movE; rw [if_neg hin])
    rw [e0]
    clear e0 hin
    go_wp2_with fail
    show Leaves _ _ _ _ _ _ _
    refine leave_err _ _ (q + 1) 3 _ rfl ?_ ?_
    · exact (OW1.out.err 3).2.cell 0 rfl
    · exact mov_no HE.out (by decide) ((HJ.out.bel HB.out).err FM.out FI.out _) ((Step.of_bel M I HB.out).err HQ2.out _)
end Jn
end Go.Proofs.Ytogphhhlbofgkaa
