/-
  What params.Parse answers of a text. Condition: the text has at most 10^9 bytes.
-/
import Derived.Test.YtpohcdfmkcfonaaGreatDoorGPPr0
import Derived.Test.YtpohcdfmkcfonaaGreatDoorPB
import Derived.Test.YtpohcdfmkcfonaaGreatDoorGPIn
namespace Go.Proofs.YtpohcdfmkcfonaaGreatDoor
open Go.RowKit Go.Shelf
set_option linter.unusedVariables false
set_option linter.unusedSimpArgs false
attribute [local go_sem] Oper.semAt_some
namespace Pm
open Kk

def PrsE (s : ByteArray) (w : World) (e : Ending) (w' : World) : Prop :=
  ∃ y a b, e = .returned (.tuple #[.agg (List.toArray (recC y)), .agg #[.int .i64 a, .int .i64 b]]) ∧ prs 0 zr (pcs s.data.toList.length s.data.toList) = (y, a, b) ∧ Bel w w'
theorem two_ok (e p : Int) : (#[Value.int .i64 e, .int .i64 p] : Array Value).all (·.oneCell') = true := all_oneCell_toArray (cs := [.int .i64 e, .int .i64 p]) (by
  intro v hv
  simp at hv
  rcases hv with rfl | rfl <;> rfl)
theorem info_flt : (Tryz.prog.info? 34).map (·.size) = some 2 := by kernel_rfl
abbrev ZR : Array Value := #[.int .i64 0, .int .i64 0, .int .i64 0, .int .i64 0, .int .i64 0, .int .i64 0, .int .i64 0, .int .u64 0, .int .u64 0, .int .i64 0, .int .u64 0]
/-- The blocks that the body of the loop may turn. -/
def Sb (p q r t : Nat) (k : Nat) : Prop := k = p ∨ k = q ∨ k = r ∨ k = t
/-- The list of the fields, with nothing of it at u or beyond. -/
structure Fd2 (n u : Nat) (W : World) (b p : Nat) : Prop where
  new : n ≤ b
  lt : b < u
  all : ∀ i, i < 11 → ∃ c, W.rangeAt b (i * 5) (fldC (nm i) (lo i) (hi i) (gf i) (sf i) c) ∧ W.cell? ⟨c, 0, none⟩ = some (.pointer (some ⟨p, i, none⟩)) ∧ n ≤ c ∧ c < u
theorem Fd2.of {n : Nat} {W : World} {b p : Nat} (h : Fds n W b p) : Fd2 n W.heap.size W b p := ⟨h.new, h.lt, fun i hi => by
  obtain ⟨c, h1, h2, h3⟩ := h.all i hi
  exact ⟨c, h1, h2, h3, World.block_lt_of_cell? W _ h2⟩⟩
theorem Fd2.kep {S : Nat → Prop} {n u : Nat} {W W' : World} {b p : Nat} (h : Fd2 n u W b p) (hk : Kep S W W') (hs : ∀ k, S k → k < n ∨ u ≤ k) : Fd2 n u W' b p := ⟨h.new, h.lt, fun i hi => by
  obtain ⟨c, h1, h2, h3, h4⟩ := h.all i hi
  exact ⟨c, rng_kep h1 hk (fun hS => by have := hs _ hS; have := h.new; have := h.lt; omega), cell_kep h2 hk (fun hS => by have := hs _ hS; omega), h3, h4⟩⟩
/-- Between two rounds. -/
structure Mid (w : World) (n b A p q r t : Nat) (pre : List (List UInt8)) (x : Nat → Int) (W : World) : Prop where
  ran : Ran pre x
  rec_ : Blk W p (recC x).toArray 24
  at_ : Blk W q #[.int .i64 (pre.length : Nat)] 3
  all : Blk W A #[.slice (some ⟨b, 0, none⟩) 11 11] 49
  fds : Fd2 n A W b p
  res : Blk W r (recC zr).toArray 24
  flt : Blk W t #[.int .i64 0, .int .i64 0] 34
  bel : Bel w W
/-- A round has left. -/
def Out (w : World) (p r t : Nat) (c : Code) (pre : List (List UInt8)) (W : World) : Prop :=
  (c = .ret ∧ ∃ y a b, (∀ rest, prs 0 zr (pre ++ rest) = (y, a, b)) ∧ Blk W r (recC y).toArray 24 ∧ Blk W t #[.int .i64 a, .int .i64 b] 34 ∧ Bel w W) ∨
  (c = .exit 0 ∧ ∃ x, (∀ rest, prs 0 zr (pre ++ rest) = (x, 0, 0)) ∧ Blk W p (recC x).toArray 24 ∧ Blk W r (recC zr).toArray 24 ∧ Blk W t #[.int .i64 0, .int .i64 0] 34 ∧ Bel w W)
theorem blk_own {W W' : World} {row : Option Nat} {b : Nat} {C : Array Value} {t : TypeId} (h : Blk W b C t) (hg : W.grownBy W' row) (hr : ∀ r, row = some r → ∃ o : Obj, W.heap[r]? = some o ∧ o.isCells = false) : Blk W' b C t := by
  refine (hg.block b h.lt fun e => ?_).trans h
  obtain ⟨o, ho, hc⟩ := hr b e.symm
  rw [show W.heap[b]? = _ from h] at ho
  cases ho
  cases hc
theorem fds_own {n u : Nat} {W W' : World} {row : Option Nat} {b p : Nat} (h : Fd2 n u W b p) (hg : W.grownBy W' row) (hr : ∀ r, row = some r → ∃ o : Obj, W.heap[r]? = some o ∧ o.isCells = false) : Fd2 n u W' b p :=
  ⟨h.new, h.lt, fun i hi => by
    obtain ⟨c, h1, h2, h3, h4⟩ := h.all i hi
    exact ⟨c, fun j v hv => cell_kept (h1 j v hv) hg hr, cell_kept h2 hg hr, h3, h4⟩⟩
theorem mid_own (w : World) (B n b A p q r t : Nat) (hB : w.heap.size ≤ B) : OwnFrom B (fun (pre : List (List UInt8)) W => ∃ x, Mid w n b A p q r t pre x W) := fun s W W' row hs hg hrow => by
  obtain ⟨x, h⟩ := hs
  have hr : ∀ r, row = some r → ∃ o : Obj, W.heap[r]? = some o ∧ o.isCells = false := fun r e => (hrow r e).2
  exact ⟨x, h.ran, blk_own h.rec_ hg hr, blk_own h.at_ hg hr, blk_own h.all hg hr, fds_own h.fds hg hr, blk_own h.res hg hr, blk_own h.flt hg hr, h.bel.grown hg (fun k hk => Nat.le_trans hB (hrow k hk).1)⟩
theorem out_own (w : World) (B p r t : Nat) (hB : w.heap.size ≤ B) (c : Code) : OwnFrom B (Out w p r t c) := fun s W W' row hs hg hrow => by
  have hr : ∀ r, row = some r → ∃ o : Obj, W.heap[r]? = some o ∧ o.isCells = false := fun r e => (hrow r e).2
  rcases hs with ⟨hc, y, a, b, h1, h2, h3, h4⟩ | ⟨hc, x, h1, h2, h3, h4, h5⟩
  · exact .inl ⟨hc, y, a, b, h1, blk_own h2 hg hr, blk_own h3 hg hr, h4.grown hg (fun k hk => Nat.le_trans hB (hrow k hk).1)⟩
  · exact .inr ⟨hc, x, h1, blk_own h2 hg hr, blk_own h3 hg hr, blk_own h4 hg hr, h5.grown hg (fun k hk => Nat.le_trans hB (hrow k hk).1)⟩

theorem Mid.kep {S : Nat → Prop} {w : World} {n b A p q r t : Nat} {pre : List (List UInt8)} {x : Nat → Int} {W W' : World} (h : Mid w n b A p q r t pre x W) (hk : Kep S W W') (h1 : ¬ S p) (h2 : ¬ S q) (h3 : ¬ S A) (h4 : ¬ S r) (h5 : ¬ S t) (hs : ∀ k, S k → k < n ∨ A ≤ k) (hw : ∀ k, S k → w.heap.size ≤ k) : Mid w n b A p q r t pre x W' :=
  ⟨h.ran, h.rec_.kep hk h1, h.at_.kep hk h2, h.all.kep hk h3, h.fds.kep hk hs, h.res.kep hk h4, h.flt.kep hk h5, Kep.bel h.bel hk hw⟩
theorem keeps_of_kep {S : Nat → Prop} {B : Nat} {W W' : World} (h : Kep S W W') (hs : ∀ k, S k → k < B) : KeepsFrom B W W' :=
  ⟨h.size, fun k o hB hk ho => (h.block k (Array.getElem?_eq_some_iff.1 hk).1 (fun hS => by have := hs k hS; omega)).trans hk⟩

set_option maxRecDepth 100000 in
set_option maxHeartbeats 1000000 in
theorem parseP (s : ByteArray) (hs : s.size ≤ 1000000000) (w : World) : Calls Tryz.prog 10 #[.string s] w (PrsE s w) := by
  obtain ⟨W0, hW0⟩ : ∃ W0, ((w.alloc (.cells ZR 24)).alloc (.cells #[.int .i64 0, .int .i64 0] 34)).alloc (.cells ZR 24) = W0 := ⟨_, rfl⟩
  obtain ⟨r, hr⟩ : ∃ r, w.heap.size = r := ⟨_, rfl⟩
  have B0 := Lib.hid (show Bel w W0 by rw [← hW0]; exact (((Bel.refl w).alloc _).alloc _).alloc _)
  have K0 := Lib.hid (show Blk W0 r (recC zr).toArray 24 ∧ Blk W0 (r + 1) #[.int .i64 0, .int .i64 0] 34 ∧ Blk W0 (r + 2) (recC zr).toArray 24 ∧ W0.heap.size = r + 3 from by
    rw [← hW0, ← hr]
    exact ⟨((Blk.new w _ _).alloc _).alloc _, (blk_at (w := w.alloc _) (by simp) rfl).alloc _, blk_at (by simp) rfl, by simp⟩)
  have HR := Lib.hid hr
  have HW := Lib.hid hW0
  clear hr hW0
  refine callsIn_wide.1 (callsIn_of_wp_marks (F := Fence.wide) (n := 9) Tryz.func10 rfl trivial ?_ rfl)
  refine wpIn_wide.2 ?_
  simp only [Tryz.ntmps10, List.size_toArray, List.length_cons, List.length_nil, Nat.reduceAdd, Nat.reduceSub, Array.replicate_succ, Array.replicate_zero, List.push_toArray, List.append_toArray, List.nil_append, List.cons_append]
  go_wp2_with fail
  rw [HW.out, HR.out]
  refine (fieldsR (r + 2) W0).mono ?_
  rintro e w1 ⟨b, rfl, hF, k1⟩
  have B1 : Hid (Bel W0 w1) := Lib.hid k1
  have F1 := Lib.hid hF
  have SZ0 := Lib.hid (show W0.heap.size = r + 3 from K0.out.2.2.2)
  clear k1 hF
  obtain ⟨sl, hsl⟩ : ∃ sl, s.data.toList = sl := ⟨_, rfl⟩
  have hss : s = str sl := by rw [← hsl]; rfl
  have HS := Lib.hid hss
  have HSL := Lib.hid hsl
  have HN := Lib.hid (show sl.length ≤ 1000000000 by rw [← hsl]; have := Lib.size_eq s; omega)
  clear hsl hss hs
  go_wp2_with fail
  obtain ⟨w2, hw2⟩ : ∃ w2, (w1.alloc (.cells #[.slice (some ⟨b, 0, none⟩) 11 11] 49)).alloc (.cells #[.int .i64 0] 3) = w2 := ⟨_, rfl⟩
  obtain ⟨A, hA⟩ : ∃ A, w1.heap.size = A := ⟨_, rfl⟩
  have k2 : Bel w1 w2 := by rw [← hw2]; exact ((Bel.refl w1).alloc _).alloc _
  have M2 : Mid w W0.heap.size b A (r + 2) (A + 1) r (r + 1) [] zr w2 := by
    refine ⟨Ran.nil, ?_, ?_, ?_, ?_, ?_, ?_, (B0.out.trans B1.out).trans k2⟩
    · exact (K0.out.2.2.1.bel B1.out).bel k2
    · rw [← hw2, ← hA]; exact blk_at (by simp) rfl
    · rw [← hw2, ← hA]; exact (Blk.new w1 _ _).alloc _
    · have h := (Fd2.of F1.out).kep (Kep.of_bel (S := fun _ => False) k2) (fun _ h => h.elim)
      rwa [hA] at h
    · exact (K0.out.1.bel B1.out).bel k2
    · exact (K0.out.2.1.bel B1.out).bel k2
  have z2 : w2.heap.size = A + 2 := by rw [← hw2, ← hA]; simp
  have HM2 := Lib.hid M2
  have Z2 := Lib.hid z2
  have HA := Lib.hid hA
  have ZA := Lib.hid (show r + 3 ≤ A by have := Below.size B1.out; have := SZ0.out; omega)
  rw [hw2, hA, HS.out]
  clear k2 M2 z2 hA hw2
  refine (splitAfter sl w2).mono ?_
  rintro e w3 ⟨rfl, hbx, k3⟩
  have HB := Lib.hid hbx
  have HM3 := Lib.hid (HM2.out.kep (Kep.of_bel (S := fun _ => False) k3) id id id id id (fun _ h => h.elim) (fun _ h => h.elim))
  have Z3 := Lib.hid (show w2.heap.size + 3 ≤ w3.heap.size by have := hbx.sav.lt; omega)
  clear k3 hbx
  obtain ⟨u, hu⟩ : ∃ u, w2.heap.size = u := ⟨_, rfl⟩
  rw [hu] at HB Z3 Z2
  rw [hu]
  clear hu
  go_wp2_with fail
  refine (wpIn_wide (n := 9)).1 ?_
  refine rangeFunc_box (α := List UInt8) rfl (by decide) (gf := 76) (lb := #[.pointer (some ⟨u + 1, 0, none⟩), .pointer (some ⟨u, 0, none⟩), .pointer (some ⟨u + 2, 0, none⟩)]) rfl trivial (enters_of Tryz.func76 (by kernel_rfl) rfl)
    (encs := fun x => #[.string (str x)]) (by have := Z3.out; omega) (gives 8 (u + 1) u (u + 2) (by omega) (by omega) sl HN.out w3 HB.out) KpB.tr (fun W l o hl => KpB.put (m := w3.heap.size) (by have := Z3.out; omega) (by have := Z3.out; omega) (by have := Z3.out; omega) W l o hl) (Below.refl _ _) (fun _ => rfl)
    (fun pre W => (∃ x, Mid w W0.heap.size b A (r + 2) (A + 1) r (r + 1) pre x W) ∧ w3.heap.size ≤ W.heap.size) (Out w (r + 2) r (r + 1))
    (fun s W W' row hs hg hr => ⟨mid_own w w3.heap.size W0.heap.size b A (r + 2) (A + 1) r (r + 1) (Below.size HM3.out.bel) s W W' row hs.1 hg hr, Nat.le_trans hs.2 hg.size⟩) (out_own w w3.heap.size (r + 2) r (r + 1) (Below.size HM3.out.bel))
    (fun pre V v h => by
      obtain ⟨⟨x, h⟩, hz⟩ := h
      have h1 := ZA.out
      have h2 := Z2.out
      have h3 := SZ0.out
      have h4 := HR.out
      exact ⟨⟨x, h.kep (Kep.set_self (Kep.refl (fun k => k = u) V) 0 v) (by omega) (by omega) (by omega) (by omega) (by omega) (fun k hk => by omega) (fun k hk => by omega)⟩, Nat.le_trans hz (Kep.set_self (Kep.refl (fun k => k = u) V) 0 v).size⟩)
    ⟨⟨zr, HM3.out⟩, Nat.le_refl _⟩
    (fun x => { tmps := #[.string (str sl), undef, .pointer (some ⟨r, 0, none⟩), .pointer (some ⟨r + 1, 0, none⟩), .pointer (some ⟨r + 1 + 1, 0, none⟩), .pointer (some ⟨A, 0, none⟩), .pointer (some ⟨A + 1, 0, none⟩), .string (str x), undef, .slice (some ⟨b, 0, none⟩) 11 11, .string (str sl), .func (.func 76) #[] #[.pointer (some ⟨u + 1, 0, none⟩), .pointer (some ⟨u, 0, none⟩), .pointer (some ⟨u + 2, 0, none⟩)], .string (str x), undef, undef, undef, undef, undef, undef, undef, undef, undef, undef, undef, undef, undef, undef, undef, undef, undef, undef, undef, undef, undef, undef, undef, undef, undef, undef, undef, undef, undef, undef, undef, undef], defers := [] }) ?assign ?body ?done ?stop
  case assign =>
    intro l x W K hK
    gi_wp2
    exact hK
  case body =>
    rintro l pre x W ⟨⟨y, hM⟩, hsz⟩ hlen hok
    have HM := Lib.hid hM
    have c6 := hM.at_.cell 0 (v := .int .i64 (pre.length : Nat)) rfl
    have c5 := hM.all.cell 0 (v := .slice (some ⟨b, 0, none⟩) 11 11) rfl
    have HLEN := Lib.hid hM.ran.len
    clear hM hlen
    have BT := Lib.hid (show w3.heap.size ≤ W.heap.size ∧ r + 3 ≤ A ∧ u = A + 2 ∧ u + 3 ≤ w3.heap.size ∧ W0.heap.size = r + 3 ∧ w.heap.size = r from ⟨hsz, ZA.out, Z2.out, Z3.out, SZ0.out, HR.out⟩)
    have ZRO : ZR.all (·.oneCell') = true := all_oneCell_toArray (cs := recC zr) (recC_cells zr)
    -- the two blocks of the results, at a world V
    have TWO := Lib.hid (show ∀ (V : World) (e at_ : Int), Blk V r (recC zr).toArray 24 → Blk V (r + 1) #[.int .i64 0, .int .i64 0] 34 → V.cell? ⟨A + 1, 0, none⟩ = some (.int .i64 (pre.length : Nat)) →
        V.drew.there r 0 ZR.size ∧ (V.drew.setCells r 0 ZR.toList).there (r + 1) 0 2 ∧ (V.drew.setCells r 0 ZR.toList).cell? ⟨A + 1, 0, none⟩ = some (.int .i64 (pre.length : Nat)) ∧
        Blk ((V.drew.setCells r 0 ZR.toList).setCells (r + 1) 0 [.int .i64 e, .int .i64 at_]) r (recC zr).toArray 24 ∧ Blk ((V.drew.setCells r 0 ZR.toList).setCells (r + 1) 0 [.int .i64 e, .int .i64 at_]) (r + 1) #[.int .i64 e, .int .i64 at_] 34 from fun V e at_ h1 h2 h3 => by
      have d1 := h1.bel (Bel.refl V).drew
      have d2 := h2.bel (Bel.refl V).drew
      have d3 := cell_bel h3 (Bel.refl V).drew
      have q1 := store_rec (z := zr) d1
      have q2 := d2.kep (kep_setCells r ZR.toList 0 V.drew) (by omega)
      have q3 := cell_kep d3 (kep_setCells r ZR.toList 0 V.drew) (by have := BT.out; omega)
      exact ⟨q1.1, bthere q2 0 2 (Nat.le_refl 2), q3, q1.2.kep (kep_setCells (r + 1) _ 0 _) (by omega), bwhole q2 rfl⟩)
    -- how a round that is left by a fault ends
    have FINE := Lib.hid (show ∀ (V : World) (e at_ : Int), Kep (Sb (r + 2) (A + 1) r (r + 1)) W V → Bel w V → Blk V r (recC zr).toArray 24 → Blk V (r + 1) #[.int .i64 0, .int .i64 0] 34 → V.cell? ⟨A + 1, 0, none⟩ = some (.int .i64 (pre.length : Nat)) → (∀ rest, prs 0 zr (pre ++ [x] ++ rest) = (zr, e, at_)) →
        (KeepsFrom w3.heap.size W ((V.drew.setCells r 0 ZR.toList).setCells (r + 1) 0 [.int .i64 e, .int .i64 at_]) ∧ Out w (r + 2) r (r + 1) .ret (pre ++ [x]) ((V.drew.setCells r 0 ZR.toList).setCells (r + 1) 0 [.int .i64 e, .int .i64 at_])) from fun V e at_ hk hb g1 g2 g3 hrun => by
      have h1 := BT.out
      have kk : Kep (Sb (r + 2) (A + 1) r (r + 1)) W ((V.drew.setCells r 0 ZR.toList).setCells (r + 1) 0 [.int .i64 e, .int .i64 at_]) :=
        ((hk.drew).trans ((kep_setCells r ZR.toList 0 V.drew).mono (fun k _ hk => .inr (.inr (.inl hk))))).trans ((kep_setCells (r + 1) [.int .i64 e, .int .i64 at_] 0 _).mono (fun k _ hk => .inr (.inr (.inr hk))))
      have h5 := TWO.out V e at_ g1 g2 g3
      exact ⟨keeps_of_kep kk (fun k hk => by rcases hk with h | h | h | h <;> omega), .inl ⟨rfl, zr, e, at_, hrun, h5.2.2.2.1, h5.2.2.2.2, bel_setCells (bel_setCells hb.drew (by omega) 0 _) (by omega) 0 _⟩⟩)
    by_cases h11 : pre.length = 11
    · have e11 : ((pre.length : Nat) : Int) = 11 := by omega
      by_cases hx : x = []
      · have he2 : (str x).toList.isEmpty = true := by rw [ByteArray.toList_eq, str_list, hx]; rfl
        have he1 : ((str x).toList == []) = true := by rw [ByteArray.toList_eq, str_list, hx]; rfl
        have HX := Lib.hid hx
        clear hx
        gi_wp2_with fail
        refine ⟨KeepsFrom.refl _ _, .inr ⟨rfl, y, fun rest => by rw [HX.out]; exact HM.out.ran.stop h11 rest, HM.out.rec_, HM.out.res, HM.out.flt, HM.out.bel⟩⟩
      · have he2 : (str x).toList.isEmpty = false := by
          rw [ByteArray.toList_eq, str_list]
          cases x with
          | nil => exact absurd rfl hx
          | cons a b => rfl
        have he1 : ((str x).toList == []) = false := by
          rw [ByteArray.toList_eq, str_list]
          cases x with
          | nil => exact absurd rfl hx
          | cons a b => rfl
        have q := TWO.out W 4 (pre.length : Nat) HM.out.res HM.out.flt c6
        have TH1 := Lib.hid q.1
        have TH2 := Lib.hid q.2.1
        have C6B := Lib.hid q.2.2.1
        have FIN := Lib.hid (FINE.out W 4 (pre.length : Nat) (Kep.refl _ W) HM.out.bel HM.out.res HM.out.flt c6 (fun rest => by rw [e11]; exact HM.out.ran.long h11 hx rest))
        clear q
        rw [e11] at FIN c6 C6B
        gi_wp2_with fail
        refine wpIn_region_any (by kernel_rfl) ?_
        change wpAnyIn _ _ _ _ _ _ _ _ _ (World.drew _)
        refine any_inRound l (fun i o hi c => no_defer (by kernel_rfl) hi c) _ _ _ _ ?_
        refine wpAnyIn_take (i := 0) (oi := { dst := some 19, op := .build 24 #[], type := 24, pos := "text.go:36", after := #[], guard := none }) (v := .agg ZR) rfl rfl (by kernel_rfl) (by kernel_rfl) (by kernel_rfl) (fun _ _ _ h => h) ⟨Or.inl ⟨by rfl, by intro w; go_simp⟩, fun _ => rfl⟩ ?_
        try simp only [Act.put, List.setIfInBounds_toArray, List.set_cons_zero, List.set_cons_succ]
        refine wpAnyIn_ready (rs := [1, 3]) (by kernel_rfl) (by simp) ?_
        refine AllReadyIn.cons (o := { dst := some 20, op := .load 3 (.tmp 6), type := 3, pos := "text.go:36", after := #[], guard := none }) rfl (fun K hK => ?_) (AllReadyIn.cons (o := { dst := none, op := .store 24 (.tmp 2) (.tmp 19), type := 0, pos := "text.go:36", after := #[{ on := 0, ground := .data }, { on := 0, ground := .phase }, { on := 1, ground := .textOnly .inlinedCapture }, { on := 2, ground := .textOnly .inlinedCapture }], guard := none }) rfl (fun K hK => ?_) AllReadyIn.nil)
        · go_simp
          refine hK _ _ ?_
          clear hK K
          try simp only [Act.put, List.setIfInBounds_toArray, List.set_cons_zero, List.set_cons_succ]
          refine wpAnyIn_take (i := 2) (oi := { dst := some 21, op := .build 34 #[(0, .const (Value.int IntKind.i64 4)), (1, .tmp 20)], type := 34, pos := "text.go:36", after := #[{ on := 1, ground := .data }], guard := none }) (v := .agg #[.int .i64 4, .int .i64 11]) rfl rfl (by kernel_rfl) (by kernel_rfl) (by kernel_rfl) (fun _ _ _ h => h) ⟨Or.inl ⟨by rfl, by intro w; go_simp⟩, fun _ => rfl⟩ ?_
          try simp only [Act.put, List.setIfInBounds_toArray, List.set_cons_zero, List.set_cons_succ]
          refine wpAnyIn_ready (rs := [3]) (by kernel_rfl) (by simp) ?_
          refine AllReadyIn.cons (o := { dst := none, op := .store 24 (.tmp 2) (.tmp 19), type := 0, pos := "text.go:36", after := #[{ on := 0, ground := .data }, { on := 0, ground := .phase }, { on := 1, ground := .textOnly .inlinedCapture }, { on := 2, ground := .textOnly .inlinedCapture }], guard := none }) rfl (fun K hK => ?_) AllReadyIn.nil
          rw [if_pos (by rfl)]
          refine in_skip (fun _ => trivial) (fun c e => by cases e) (exec_store 24 (.tmp 2) (.tmp 19) rfl r 0 ZR rfl rfl TH1.out info_rec ZRO) ?_
          refine hK _ _ ?_
          clear hK K
          try simp only [Act.put, List.setIfInBounds_toArray, List.set_cons_zero, List.set_cons_succ]
          refine wpAnyIn_ready (rs := [4]) (by kernel_rfl) (by simp) ?_
          refine AllReadyIn.cons (o := { dst := none, op := .store 34 (.tmp 3) (.tmp 21), type := 0, pos := "text.go:36", after := #[{ on := 2, ground := .data }, { on := 3, ground := .chain }, { on := 0, ground := .phase }, { on := 1, ground := .phase }, { on := 2, ground := .phase }, { on := 3, ground := .phase }], guard := none }) rfl (fun K hK => ?_) AllReadyIn.nil
          rw [if_pos (by rfl)]
          refine in_skip (fun _ => trivial) (fun c e => by cases e) (exec_store 34 (.tmp 3) (.tmp 21) rfl (r + 1) 0 #[.int .i64 4, .int .i64 11] rfl rfl TH2.out info_flt (two_ok _ _)) ?_
          refine hK _ _ ?_
          clear hK K
          try simp only [Act.put, List.setIfInBounds_toArray, List.set_cons_zero, List.set_cons_succ]
          refine wpAnyIn_done (by kernel_rfl) ?_ _
          clear ZRO
          gi_wp2_with fail
          exact FIN.out
        · rw [if_pos (by rfl)]
          refine in_skip (fun _ => trivial) (fun c e => by cases e) (exec_store 24 (.tmp 2) (.tmp 19) rfl r 0 ZR rfl rfl TH1.out info_rec ZRO) ?_
          refine hK _ _ ?_
          clear hK K
          try simp only [Act.put, List.setIfInBounds_toArray, List.set_cons_zero, List.set_cons_succ]
          refine wpAnyIn_ready (rs := [1]) (by kernel_rfl) (by simp) ?_
          refine AllReadyIn.cons (o := { dst := some 20, op := .load 3 (.tmp 6), type := 3, pos := "text.go:36", after := #[], guard := none }) rfl (fun K hK => ?_) AllReadyIn.nil
          have c6 := C6B.out
          go_simp
          refine hK _ _ ?_
          clear hK K
          try simp only [Act.put, List.setIfInBounds_toArray, List.set_cons_zero, List.set_cons_succ]
          refine wpAnyIn_take (i := 2) (oi := { dst := some 21, op := .build 34 #[(0, .const (Value.int IntKind.i64 4)), (1, .tmp 20)], type := 34, pos := "text.go:36", after := #[{ on := 1, ground := .data }], guard := none }) (v := .agg #[.int .i64 4, .int .i64 11]) rfl rfl (by kernel_rfl) (by kernel_rfl) (by kernel_rfl) (fun _ _ _ h => h) ⟨Or.inl ⟨by rfl, by intro w; go_simp⟩, fun _ => rfl⟩ ?_
          try simp only [Act.put, List.setIfInBounds_toArray, List.set_cons_zero, List.set_cons_succ]
          refine wpAnyIn_ready (rs := [4]) (by kernel_rfl) (by simp) ?_
          refine AllReadyIn.cons (o := { dst := none, op := .store 34 (.tmp 3) (.tmp 21), type := 0, pos := "text.go:36", after := #[{ on := 2, ground := .data }, { on := 3, ground := .chain }, { on := 0, ground := .phase }, { on := 1, ground := .phase }, { on := 2, ground := .phase }, { on := 3, ground := .phase }], guard := none }) rfl (fun K hK => ?_) AllReadyIn.nil
          rw [if_pos (by rfl)]
          refine in_skip (fun _ => trivial) (fun c e => by cases e) (exec_store 34 (.tmp 3) (.tmp 21) rfl (r + 1) 0 #[.int .i64 4, .int .i64 11] rfl rfl TH2.out info_flt (two_ok _ _)) ?_
          refine hK _ _ ?_
          clear hK K
          try simp only [Act.put, List.setIfInBounds_toArray, List.set_cons_zero, List.set_cons_succ]
          refine wpAnyIn_done (by kernel_rfl) ?_ _
          clear ZRO
          gi_wp2_with fail
          exact FIN.out
    · have e11 : ¬ ((pre.length : Nat) : Int) = 11 := by omega
      have hlt : pre.length < 11 := by have := HLEN.out; omega
      obtain ⟨c, h1, h2, h3, h4⟩ := HM.out.fds.all pre.length hlt
      have hY0 : ∃ Y, Y = fldC (nm pre.length) (lo pre.length) (hi pre.length) (gf pre.length) (sf pre.length) c := ⟨_, rfl⟩
      obtain ⟨Y, hY⟩ := hY0
      rw [← hY] at h1
      have YI := Lib.hid (show (Tryz.prog.info? 55).map (·.size) = some Y.length by rw [hY]; exact info_fld)
      have R1 := Lib.hid h1
      have PA := Lib.hid (show Calls Tryz.prog 30 #[.agg Y.toArray, .string (str x)] W fun e w' => e = .returned (.int .i64 (lnA pre.length x)) ∧ Blk w' (r + 2) (recC (lnX y pre.length x)).toArray 24 ∧ Kep (fun k => k = r + 2) W w' by
        rw [hY]
        exact parse pre.length c (r + 2) y (str x) W hlt (by rw [str_size]; exact hok) h2 HM.out.rec_)
      obtain ⟨z, hz⟩ : ∃ z, lnX y pre.length x = z := ⟨_, rfl⟩
      obtain ⟨a, ha0⟩ : ∃ a, lnA pre.length x = a := ⟨_, rfl⟩
      have ZK := Lib.hid (show Kinds z by rw [← hz]; exact lnX_kinds HM.out.ran.kinds _ _)
      rw [hz, ha0] at PA
      have HZ := Lib.hid hz
      have HA0 := Lib.hid ha0
      clear h1 h2 h3 h4 hY hz ha0
      gi_wp2_with (refine wpListIn_load_mid (by rfl) 55 (.tmp 24) rfl b (pre.length * 5) rfl Y _ R1.out Tryz.underlying55 rfl YI.out ?_)
      refine ⟨trivial, ((callsIn_wide.2 PA.out).inRound l).mono ?_⟩
      rintro e W2 ⟨rfl, hb2, k2⟩
      have K2 := Lib.hid hb2
      have KP2 := Lib.hid k2
      have BW2 := Lib.hid (show Bel w W2 from Kep.bel HM.out.bel k2 (fun k hk => by have := BT.out; omega))
      have c62 := cell_kep c6 k2 (by have := BT.out; omega)
      have RES2 := Lib.hid (HM.out.res.kep k2 (by omega))
      have FLT2 := Lib.hid (HM.out.flt.kep k2 (by omega))
      have SB2 := Lib.hid (show Kep (Sb (r + 2) (A + 1) r (r + 1)) W W2 from k2.mono (fun k _ hk => .inl hk))
      have ALL2 := Lib.hid (HM.out.all.kep k2 (by have := BT.out; omega))
      have FDS2 := Lib.hid (HM.out.fds.kep k2 (fun k hk => by have := BT.out; omega))
      have AT2 := Lib.hid (HM.out.at_.kep k2 (by have := BT.out; omega))
      clear hb2 k2 c6 c5
      by_cases ha : a = 0
      · subst ha
        obtain ⟨D, hD⟩ : ∃ D, D = recC z := ⟨_, rfl⟩
        have R2 := Lib.hid (show W2.rangeAt (r + 1 + 1) 0 D by rw [hD]; exact rngB K2.out)
        have DI := Lib.hid (show (Tryz.prog.info? 24).map (·.size) = some D.length by rw [hD]; exact info_rec)
        obtain ⟨o, ho⟩ : ∃ o, decide (z 1 ≤ z 0) = o := ⟨_, rfl⟩
        have OR := Lib.hid (ordered z W2)
        rw [← hD, ho] at OR
        have HO := Lib.hid ho
        clear hD ho
        gi_wp2_with (refine wpListIn_load_mid (by rfl) 24 (.tmp 4) rfl (r + 1 + 1) 0 rfl D _ R2.out Tryz.underlying24 rfl DI.out ?_)
        refine ⟨trivial, ((callsIn_wide.2 OR.out).inRound l).mono ?_⟩
        rintro e W3 ⟨rfl, k3⟩
        have c63 := cell_bel c62 k3
        have K3 := Lib.hid (K2.out.bel k3)
        have B3 : Hid (Bel W2 W3) := Lib.hid k3
        clear k3 c62
        cases o with
        | true =>
          have f6 := (AT2.out.bel B3.out).frozen 0
          gi_wp2_with fail
          have kk : Kep (Sb (r + 2) (A + 1) r (r + 1)) W (W3.setCell ⟨A + 1, 0, none⟩ (.int .i64 ((pre.length : Nat) + 1))) := (SB2.out.trans (Kep.of_bel B3.out)).set (b := A + 1) (o := 0) (.inr (.inl rfl)) _
          have ks := Kep.set_self (Kep.refl (fun k => k = A + 1) W3) 0 (.int .i64 ((pre.length : Nat) + 1))
          have hb := BT.out
          refine ⟨keeps_of_kep kk (fun k hk => by rcases hk with h | h | h | h <;> omega), KpB.kep kk (by omega) (by omega) (by omega) (fun h => by rcases h with h | h | h | h <;> omega) (fun h => by rcases h with h | h | h | h <;> omega) (fun h => by rcases h with h | h | h | h <;> omega), ⟨z, ?_⟩, ?_⟩
          · refine ⟨?_, K3.out.kep ks (by omega), ?_, (ALL2.out.bel B3.out).kep ks (by omega), (FDS2.out.kep (Kep.of_bel (S := fun _ => False) B3.out) (fun _ h => h.elim)).kep ks (fun k hk => by omega), (RES2.out.bel B3.out).kep ks (by omega), (FLT2.out.bel B3.out).kep ks (by omega), Kep.bel (BW2.out.trans B3.out) ks (fun k hk => by omega)⟩
            · have := HM.out.ran.step hlt HA0.out (by rw [HZ.out]; exact of_decide_eq_true HO.out)
              rwa [HZ.out] at this
            · have := (AT2.out.bel B3.out).set 0 (.int .i64 ((pre.length : Nat) + 1))
              rw [List.length_append]
              exact this
          · exact Nat.le_trans hb.1 kk.size
        | false =>
          have q := TWO.out W3 9 (pre.length : Nat) (RES2.out.bel B3.out) (FLT2.out.bel B3.out) c63
          have TH1 := Lib.hid q.1
          have TH2 := Lib.hid q.2.1
          have C6B := Lib.hid q.2.2.1
          have FIN := Lib.hid (FINE.out W3 9 (pre.length : Nat) (SB2.out.trans (Kep.of_bel B3.out)) (BW2.out.trans B3.out) (RES2.out.bel B3.out) (FLT2.out.bel B3.out) c63 (fun rest => HM.out.ran.order hlt HA0.out (by rw [HZ.out]; exact of_decide_eq_false HO.out) rest))
          clear q
          have c6 := c63
          gi_wp2_with fail
          refine wpIn_region_any (by kernel_rfl) ?_
          change wpAnyIn _ _ _ _ _ _ _ _ _ (World.drew _)
          refine any_inRound l (fun i o hi c => no_defer (by kernel_rfl) hi c) _ _ _ _ ?_
          refine wpAnyIn_take (i := 0) (oi := { dst := some 37, op := .build 24 #[], type := 24, pos := "text.go:45", after := #[], guard := none }) (v := .agg ZR) rfl rfl (by kernel_rfl) (by kernel_rfl) (by kernel_rfl) (fun _ _ _ h => h) ⟨Or.inl ⟨by rfl, by intro w; go_simp⟩, fun _ => rfl⟩ ?_
          try simp only [Act.put, List.setIfInBounds_toArray, List.set_cons_zero, List.set_cons_succ]
          refine wpAnyIn_take (i := 1) (oi := { dst := some 38, op := .move (.tmp 8), type := 27, pos := "text.go:45", after := #[], guard := none }) (v := .int .i64 9) rfl rfl (by kernel_rfl) (by kernel_rfl) (by kernel_rfl) (fun _ _ _ h => h) ⟨Or.inl ⟨by rfl, by intro w; go_simp⟩, fun _ => rfl⟩ ?_
          try simp only [Act.put, List.setIfInBounds_toArray, List.set_cons_zero, List.set_cons_succ]
          refine wpAnyIn_ready (rs := [2, 4]) (by kernel_rfl) (by simp) ?_
          refine AllReadyIn.cons (o := { dst := some 39, op := .load 3 (.tmp 6), type := 3, pos := "text.go:45", after := #[], guard := none }) rfl (fun K hK => ?_) (AllReadyIn.cons (o := { dst := none, op := .store 24 (.tmp 2) (.tmp 37), type := 0, pos := "text.go:45", after := #[{ on := 0, ground := .data }, { on := 0, ground := .phase }, { on := 1, ground := .textOnly .lateStores }, { on := 2, ground := .textOnly .inlinedCapture }, { on := 3, ground := .textOnly .inlinedCapture }], guard := none }) rfl (fun K hK => ?_) AllReadyIn.nil)
          · go_simp
            refine hK _ _ ?_
            clear hK K
            try simp only [Act.put, List.setIfInBounds_toArray, List.set_cons_zero, List.set_cons_succ]
            refine wpAnyIn_take (i := 3) (oi := { dst := some 40, op := .build 34 #[(0, .tmp 38), (1, .tmp 39)], type := 34, pos := "text.go:45", after := #[{ on := 1, ground := .data }, { on := 2, ground := .data }], guard := none }) (v := .agg #[.int .i64 9, .int .i64 (pre.length : Nat)]) rfl rfl (by kernel_rfl) (by kernel_rfl) (by kernel_rfl) (fun _ _ _ h => h) ⟨Or.inl ⟨by rfl, by intro w; go_simp⟩, fun _ => rfl⟩ ?_
            try simp only [Act.put, List.setIfInBounds_toArray, List.set_cons_zero, List.set_cons_succ]
            refine wpAnyIn_ready (rs := [4]) (by kernel_rfl) (by simp) ?_
            refine AllReadyIn.cons (o := { dst := none, op := .store 24 (.tmp 2) (.tmp 37), type := 0, pos := "text.go:45", after := #[{ on := 0, ground := .data }, { on := 0, ground := .phase }, { on := 1, ground := .textOnly .lateStores }, { on := 2, ground := .textOnly .inlinedCapture }, { on := 3, ground := .textOnly .inlinedCapture }], guard := none }) rfl (fun K hK => ?_) AllReadyIn.nil
            rw [if_pos (by rfl)]
            refine in_skip (fun _ => trivial) (fun c e => by cases e) (exec_store 24 (.tmp 2) (.tmp 37) rfl r 0 ZR rfl rfl TH1.out info_rec ZRO) ?_
            refine hK _ _ ?_
            clear hK K
            try simp only [Act.put, List.setIfInBounds_toArray, List.set_cons_zero, List.set_cons_succ]
            refine wpAnyIn_ready (rs := [5]) (by kernel_rfl) (by simp) ?_
            refine AllReadyIn.cons (o := { dst := none, op := .store 34 (.tmp 3) (.tmp 40), type := 0, pos := "text.go:45", after := #[{ on := 3, ground := .data }, { on := 4, ground := .chain }, { on := 0, ground := .phase }, { on := 1, ground := .phase }, { on := 2, ground := .phase }, { on := 3, ground := .phase }, { on := 4, ground := .phase }], guard := none }) rfl (fun K hK => ?_) AllReadyIn.nil
            rw [if_pos (by rfl)]
            refine in_skip (fun _ => trivial) (fun c e => by cases e) (exec_store 34 (.tmp 3) (.tmp 40) rfl (r + 1) 0 #[.int .i64 9, .int .i64 (pre.length : Nat)] rfl rfl TH2.out info_flt (two_ok _ _)) ?_
            refine hK _ _ ?_
            clear hK K
            try simp only [Act.put, List.setIfInBounds_toArray, List.set_cons_zero, List.set_cons_succ]
            refine wpAnyIn_done (by kernel_rfl) ?_ _
            clear ZRO
            gi_wp2_with fail
            exact FIN.out
          · rw [if_pos (by rfl)]
            refine in_skip (fun _ => trivial) (fun c e => by cases e) (exec_store 24 (.tmp 2) (.tmp 37) rfl r 0 ZR rfl rfl TH1.out info_rec ZRO) ?_
            refine hK _ _ ?_
            clear hK K
            try simp only [Act.put, List.setIfInBounds_toArray, List.set_cons_zero, List.set_cons_succ]
            refine wpAnyIn_ready (rs := [2]) (by kernel_rfl) (by simp) ?_
            refine AllReadyIn.cons (o := { dst := some 39, op := .load 3 (.tmp 6), type := 3, pos := "text.go:45", after := #[], guard := none }) rfl (fun K hK => ?_) AllReadyIn.nil
            have c6 := C6B.out
            go_simp
            refine hK _ _ ?_
            clear hK K
            try simp only [Act.put, List.setIfInBounds_toArray, List.set_cons_zero, List.set_cons_succ]
            refine wpAnyIn_take (i := 3) (oi := { dst := some 40, op := .build 34 #[(0, .tmp 38), (1, .tmp 39)], type := 34, pos := "text.go:45", after := #[{ on := 1, ground := .data }, { on := 2, ground := .data }], guard := none }) (v := .agg #[.int .i64 9, .int .i64 (pre.length : Nat)]) rfl rfl (by kernel_rfl) (by kernel_rfl) (by kernel_rfl) (fun _ _ _ h => h) ⟨Or.inl ⟨by rfl, by intro w; go_simp⟩, fun _ => rfl⟩ ?_
            try simp only [Act.put, List.setIfInBounds_toArray, List.set_cons_zero, List.set_cons_succ]
            refine wpAnyIn_ready (rs := [5]) (by kernel_rfl) (by simp) ?_
            refine AllReadyIn.cons (o := { dst := none, op := .store 34 (.tmp 3) (.tmp 40), type := 0, pos := "text.go:45", after := #[{ on := 3, ground := .data }, { on := 4, ground := .chain }, { on := 0, ground := .phase }, { on := 1, ground := .phase }, { on := 2, ground := .phase }, { on := 3, ground := .phase }, { on := 4, ground := .phase }], guard := none }) rfl (fun K hK => ?_) AllReadyIn.nil
            rw [if_pos (by rfl)]
            refine in_skip (fun _ => trivial) (fun c e => by cases e) (exec_store 34 (.tmp 3) (.tmp 40) rfl (r + 1) 0 #[.int .i64 9, .int .i64 (pre.length : Nat)] rfl rfl TH2.out info_flt (two_ok _ _)) ?_
            refine hK _ _ ?_
            clear hK K
            try simp only [Act.put, List.setIfInBounds_toArray, List.set_cons_zero, List.set_cons_succ]
            refine wpAnyIn_done (by kernel_rfl) ?_ _
            clear ZRO
            gi_wp2_with fail
            exact FIN.out
      · have q := TWO.out W2 a (pre.length : Nat) RES2.out FLT2.out c62
        have TH1 := Lib.hid q.1
        have TH2 := Lib.hid q.2.1
        have C6B := Lib.hid q.2.2.1
        have FIN := Lib.hid (FINE.out W2 a (pre.length : Nat) SB2.out BW2.out RES2.out FLT2.out c62 (fun rest => by
          have := HM.out.ran.bad hlt (l := x) (by rw [HA0.out]; exact ha) rest
          rwa [HA0.out] at this))
        clear q
        have c6 := c62
        have hab : (a == 0) = false := by simpa using ha
        have hab2 : (a != 0) = true := by simpa using ha
        gi_wp2_with fail
        refine ⟨trivial, ?_⟩
        gi_wp2_with fail
        refine wpIn_region_any (by kernel_rfl) ?_
        change wpAnyIn _ _ _ _ _ _ _ _ _ (World.drew _)
        refine any_inRound l (fun i o hi c => no_defer (by kernel_rfl) hi c) _ _ _ _ ?_
        refine wpAnyIn_take (i := 0) (oi := { dst := some 37, op := .build 24 #[], type := 24, pos := "text.go:45", after := #[], guard := none }) (v := .agg ZR) rfl rfl (by kernel_rfl) (by kernel_rfl) (by kernel_rfl) (fun _ _ _ h => h) ⟨Or.inl ⟨by rfl, by intro w; go_simp⟩, fun _ => rfl⟩ ?_
        try simp only [Act.put, List.setIfInBounds_toArray, List.set_cons_zero, List.set_cons_succ]
        refine wpAnyIn_take (i := 1) (oi := { dst := some 38, op := .move (.tmp 8), type := 27, pos := "text.go:45", after := #[], guard := none }) (v := .int .i64 a) rfl rfl (by kernel_rfl) (by kernel_rfl) (by kernel_rfl) (fun _ _ _ h => h) ⟨Or.inl ⟨by rfl, by intro w; go_simp⟩, fun _ => rfl⟩ ?_
        try simp only [Act.put, List.setIfInBounds_toArray, List.set_cons_zero, List.set_cons_succ]
        refine wpAnyIn_ready (rs := [2, 4]) (by kernel_rfl) (by simp) ?_
        refine AllReadyIn.cons (o := { dst := some 39, op := .load 3 (.tmp 6), type := 3, pos := "text.go:45", after := #[], guard := none }) rfl (fun K hK => ?_) (AllReadyIn.cons (o := { dst := none, op := .store 24 (.tmp 2) (.tmp 37), type := 0, pos := "text.go:45", after := #[{ on := 0, ground := .data }, { on := 0, ground := .phase }, { on := 1, ground := .textOnly .lateStores }, { on := 2, ground := .textOnly .inlinedCapture }, { on := 3, ground := .textOnly .inlinedCapture }], guard := none }) rfl (fun K hK => ?_) AllReadyIn.nil)
        · go_simp
          refine hK _ _ ?_
          clear hK K
          try simp only [Act.put, List.setIfInBounds_toArray, List.set_cons_zero, List.set_cons_succ]
          refine wpAnyIn_take (i := 3) (oi := { dst := some 40, op := .build 34 #[(0, .tmp 38), (1, .tmp 39)], type := 34, pos := "text.go:45", after := #[{ on := 1, ground := .data }, { on := 2, ground := .data }], guard := none }) (v := .agg #[.int .i64 a, .int .i64 (pre.length : Nat)]) rfl rfl (by kernel_rfl) (by kernel_rfl) (by kernel_rfl) (fun _ _ _ h => h) ⟨Or.inl ⟨by rfl, by intro w; go_simp⟩, fun _ => rfl⟩ ?_
          try simp only [Act.put, List.setIfInBounds_toArray, List.set_cons_zero, List.set_cons_succ]
          refine wpAnyIn_ready (rs := [4]) (by kernel_rfl) (by simp) ?_
          refine AllReadyIn.cons (o := { dst := none, op := .store 24 (.tmp 2) (.tmp 37), type := 0, pos := "text.go:45", after := #[{ on := 0, ground := .data }, { on := 0, ground := .phase }, { on := 1, ground := .textOnly .lateStores }, { on := 2, ground := .textOnly .inlinedCapture }, { on := 3, ground := .textOnly .inlinedCapture }], guard := none }) rfl (fun K hK => ?_) AllReadyIn.nil
          rw [if_pos (by rfl)]
          refine in_skip (fun _ => trivial) (fun c e => by cases e) (exec_store 24 (.tmp 2) (.tmp 37) rfl r 0 ZR rfl rfl TH1.out info_rec ZRO) ?_
          refine hK _ _ ?_
          clear hK K
          try simp only [Act.put, List.setIfInBounds_toArray, List.set_cons_zero, List.set_cons_succ]
          refine wpAnyIn_ready (rs := [5]) (by kernel_rfl) (by simp) ?_
          refine AllReadyIn.cons (o := { dst := none, op := .store 34 (.tmp 3) (.tmp 40), type := 0, pos := "text.go:45", after := #[{ on := 3, ground := .data }, { on := 4, ground := .chain }, { on := 0, ground := .phase }, { on := 1, ground := .phase }, { on := 2, ground := .phase }, { on := 3, ground := .phase }, { on := 4, ground := .phase }], guard := none }) rfl (fun K hK => ?_) AllReadyIn.nil
          rw [if_pos (by rfl)]
          refine in_skip (fun _ => trivial) (fun c e => by cases e) (exec_store 34 (.tmp 3) (.tmp 40) rfl (r + 1) 0 #[.int .i64 a, .int .i64 (pre.length : Nat)] rfl rfl TH2.out info_flt (two_ok _ _)) ?_
          refine hK _ _ ?_
          clear hK K
          try simp only [Act.put, List.setIfInBounds_toArray, List.set_cons_zero, List.set_cons_succ]
          refine wpAnyIn_done (by kernel_rfl) ?_ _
          clear ZRO
          gi_wp2_with fail
          exact FIN.out
        · rw [if_pos (by rfl)]
          refine in_skip (fun _ => trivial) (fun c e => by cases e) (exec_store 24 (.tmp 2) (.tmp 37) rfl r 0 ZR rfl rfl TH1.out info_rec ZRO) ?_
          refine hK _ _ ?_
          clear hK K
          try simp only [Act.put, List.setIfInBounds_toArray, List.set_cons_zero, List.set_cons_succ]
          refine wpAnyIn_ready (rs := [2]) (by kernel_rfl) (by simp) ?_
          refine AllReadyIn.cons (o := { dst := some 39, op := .load 3 (.tmp 6), type := 3, pos := "text.go:45", after := #[], guard := none }) rfl (fun K hK => ?_) AllReadyIn.nil
          have c6 := C6B.out
          go_simp
          refine hK _ _ ?_
          clear hK K
          try simp only [Act.put, List.setIfInBounds_toArray, List.set_cons_zero, List.set_cons_succ]
          refine wpAnyIn_take (i := 3) (oi := { dst := some 40, op := .build 34 #[(0, .tmp 38), (1, .tmp 39)], type := 34, pos := "text.go:45", after := #[{ on := 1, ground := .data }, { on := 2, ground := .data }], guard := none }) (v := .agg #[.int .i64 a, .int .i64 (pre.length : Nat)]) rfl rfl (by kernel_rfl) (by kernel_rfl) (by kernel_rfl) (fun _ _ _ h => h) ⟨Or.inl ⟨by rfl, by intro w; go_simp⟩, fun _ => rfl⟩ ?_
          try simp only [Act.put, List.setIfInBounds_toArray, List.set_cons_zero, List.set_cons_succ]
          refine wpAnyIn_ready (rs := [5]) (by kernel_rfl) (by simp) ?_
          refine AllReadyIn.cons (o := { dst := none, op := .store 34 (.tmp 3) (.tmp 40), type := 0, pos := "text.go:45", after := #[{ on := 3, ground := .data }, { on := 4, ground := .chain }, { on := 0, ground := .phase }, { on := 1, ground := .phase }, { on := 2, ground := .phase }, { on := 3, ground := .phase }, { on := 4, ground := .phase }], guard := none }) rfl (fun K hK => ?_) AllReadyIn.nil
          rw [if_pos (by rfl)]
          refine in_skip (fun _ => trivial) (fun c e => by cases e) (exec_store 34 (.tmp 3) (.tmp 40) rfl (r + 1) 0 #[.int .i64 a, .int .i64 (pre.length : Nat)] rfl rfl TH2.out info_flt (two_ok _ _)) ?_
          refine hK _ _ ?_
          clear hK K
          try simp only [Act.put, List.setIfInBounds_toArray, List.set_cons_zero, List.set_cons_succ]
          refine wpAnyIn_done (by kernel_rfl) ?_ _
          clear ZRO
          gi_wp2_with fail
          exact FIN.out
  case done =>
    rintro D ys W hD rfl ⟨⟨y, hM⟩, _⟩ hK
    obtain ⟨z, hz, hs⟩ := pcs_last sl.length sl (Nat.le_refl _)
    have := hM.ran.full z hz
    rw [hs] at this
    cases this
  case stop =>
    rintro D c pre W hD ⟨rest, hpre⟩ hout hK
    rcases hout with ⟨rfl, y, a, b', hrun, h1, h2, h3⟩ | ⟨rfl, y, hrun, h1, h2, h3, h4⟩
    · have hr := hrun rest
      rw [hpre] at hr
      have H1 := Lib.hid h1
      have H2 := Lib.hid h2
      have H3 := Lib.hid h3
      have HRN := Lib.hid hr
      clear h1 h2 h3 hr hrun hpre
      gi_wp2_with fail
      refine ⟨by simp, .inl ⟨_, _, rfl, run_takeDeferred hK, ?_⟩⟩
      have hg := grownBy_putObj' W D (.deferred none)
      have hn : ∀ k, some D = some k → ∃ o : Obj, W.heap[k]? = some o ∧ o.isCells = false := fun k e => by cases e; exact ⟨_, hK, rfl⟩
      have g1 := blk_own H1.out hg hn
      have g2 := blk_own H2.out hg hn
      exact ⟨.tuple #[.agg (recC y).toArray, .agg #[.int .i64 a, .int .i64 b']], res_cc Tryz.results10 _ _ ⟨r, 0, none⟩ ⟨r + 1, 0, none⟩ (.agg (recC y).toArray) (.agg #[.int .i64 a, .int .i64 b']) rfl rfl (load_b g1 Tryz.underlying24 rfl info_rec) (load_b (C := [.int .i64 a, .int .i64 b']) g2 Tryz.underlying34 rfl info_flt),
        y, a, b', rfl, by rw [HSL.out]; exact HRN.out, H3.out.grown hg (fun k hk => by cases hk; exact Nat.le_trans (Below.size HM3.out.bel) hD)⟩
    · have hr := hrun rest
      rw [hpre] at hr
      have H2 := Lib.hid h1
      have H3 := Lib.hid h2
      have H4 := Lib.hid h3
      have HH := Lib.hid h4
      have HRN := Lib.hid hr
      clear hr hrun hpre
      obtain ⟨E, hE⟩ : ∃ E, E = recC y := ⟨_, rfl⟩
      have EI := Lib.hid (show (Tryz.prog.info? 24).map (·.size) = some E.length by rw [hE]; exact info_rec)
      have EI2 := Lib.hid (show (Tryz.prog.info? 24).map (·.size) = some E.toArray.size by rw [hE]; exact info_rec)
      have EO := Lib.hid (all_oneCell_toArray (cs := E) (by rw [hE]; exact recC_cells _))
      have RE := Lib.hid (show W.rangeAt (r + 1 + 1) 0 E by rw [hE]; exact rngB H2.out)
      obtain ⟨t1, t2⟩ := store_rec (z := y) H3.out
      rw [← hE] at t1 t2
      have T1 := Lib.hid t1
      have q2 := H4.out.kep (kep_setCells r E 0 W) (by omega)
      have T2 := Lib.hid (show (W.setCells r 0 E).there (r + 1) 0 2 from bthere q2 0 2 (Nat.le_refl 2))
      have G1 := Lib.hid (show Blk ((W.setCells r 0 E).setCells (r + 1) 0 [.int .i64 0, .int .i64 0]) r E.toArray 24 from t2.kep (kep_setCells (r + 1) _ 0 _) (by omega))
      have G2 := Lib.hid (show Blk ((W.setCells r 0 E).setCells (r + 1) 0 [.int .i64 0, .int .i64 0]) (r + 1) [Value.int .i64 0, .int .i64 0].toArray 34 from bwhole q2 rfl)
      have BQ := Lib.hid (show Bel w ((W.setCells r 0 E).setCells (r + 1) 0 [.int .i64 0, .int .i64 0]) from by
        have := HR.out
        exact bel_setCells (bel_setCells HH.out (by omega) 0 _) (by omega) 0 _)
      have hK2 : ((W.setCells r 0 E).setCells (r + 1) 0 [.int .i64 0, .int .i64 0]).heap[D]? = some (.deferred (some [])) := by
        have hD1 : D < W.heap.size := (Array.getElem?_eq_some_iff.1 hK).1
        have hDr : w3.heap.size ≤ D := hD
        have hb : r + 3 ≤ w3.heap.size := by have := ZA.out; have := Z2.out; have := Z3.out; omega
        have k1 := (kep_setCells r E 0 W).block D hD1 (by omega)
        have k2 := (kep_setCells (r + 1) [Value.int .i64 0, .int .i64 0] 0 (W.setCells r 0 E)).block D (Nat.lt_of_lt_of_le hD1 (kep_setCells r E 0 W).size) (by omega)
        exact k2.trans (k1.trans hK)
      have HE := Lib.hid hE
      have HK2 := Lib.hid hK2
      have HDW := Lib.hid (show w.heap.size ≤ D from Nat.le_trans (Below.size HM3.out.bel) hD)
      clear t1 t2 q2 hE hK2 hK hD
      gi_wp2_with fail
      go_wp2_with (first | (refine wpList_load_mid rfl 24 (.tmp 4) rfl (r + 1 + 1) 0 rfl E _ RE.out Tryz.underlying24 rfl EI.out ?_) | (refine wpList_store_mid rfl 24 (.tmp 2) (.tmp 43) rfl r 0 E.toArray rfl rfl T1.out EI2.out EO.out ?_) | (refine wpList_store_mid rfl 34 (.tmp 3) (.tmp 44) rfl (r + 1) 0 #[.int .i64 0, .int .i64 0] rfl rfl T2.out info_flt (two_ok _ _) ?_))
      refine ⟨by simp, .inl ⟨_, _, rfl, run_takeDeferred HK2.out, ?_⟩⟩
      have hg := grownBy_putObj' ((W.setCells r 0 E).setCells (r + 1) 0 [.int .i64 0, .int .i64 0]) D (.deferred none)
      have hn : ∀ k, some D = some k → ∃ o : Obj, ((W.setCells r 0 E).setCells (r + 1) 0 [.int .i64 0, .int .i64 0]).heap[k]? = some o ∧ o.isCells = false := fun k e => by cases e; exact ⟨_, HK2.out, rfl⟩
      have g1 := blk_own G1.out hg hn
      have g2 := blk_own G2.out hg hn
      exact ⟨.tuple #[.agg E.toArray, .agg #[.int .i64 0, .int .i64 0]], res_cc Tryz.results10 _ _ ⟨r, 0, none⟩ ⟨r + 1, 0, none⟩ (.agg E.toArray) (.agg #[.int .i64 0, .int .i64 0]) rfl rfl (load_b g1 Tryz.underlying24 rfl EI.out) (load_b (C := [.int .i64 0, .int .i64 0]) g2 Tryz.underlying34 rfl info_flt),
        y, 0, 0, by rw [HE.out], by rw [HSL.out]; exact HRN.out, BQ.out.grown hg (fun k hk => by cases hk; exact HDW.out)⟩
end Pm
end Go.Proofs.YtpohcdfmkcfonaaGreatDoor
