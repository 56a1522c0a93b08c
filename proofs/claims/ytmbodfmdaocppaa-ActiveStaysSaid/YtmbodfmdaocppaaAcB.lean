/-
  Words and ints in memory, and a ranking; what the small functions of package active answer. Conditions: at most a million elements.
-/
import Derived.Test.YtmbodfmdaocppaaRw
import Derived.Test.YtmbodfmdaocppaaRoB
import Derived.Test.YtmbodfmdaocppaaAcM
import Derived.WalkMore
import Derived.Maps.AppendAt
import Derived.Laws.OwnMore
namespace Go.Proofs.Ytmbodfmdaocppaa
open Go.RowKit Go.Shelf
set_option linter.unusedVariables false
set_option linter.unusedSimpArgs false
namespace Ac
open Kk Pm Ro

def uR : Rw.Row Int where
  k := fun z => [.int .u64 z]
  z := 1
  len := fun _ => rfl
  one := fun r u hu => by
    rw [List.mem_singleton] at hu
    subst hu; rfl
  pos := by decide
def iR : Rw.Row Nat where
  k := fun z => [.int .i64 z]
  z := 1
  len := fun _ => rfl
  one := fun r u hu => by
    rw [List.mem_singleton] at hu
    subst hu; rfl
  pos := by decide
theorem word_at {w : World} {A : Option Addr} {n c : Nat} {l : List Int} (h : Rw.RS uR w A n c l) {i : Nat} (hi : i < n) : ∃ b o, A = some ⟨b, o, none⟩ ∧ b < w.heap.size ∧ w.cell? ⟨b, o + i, none⟩ = some (.int .u64 (tk l i)) := by
  obtain ⟨x, hx⟩ := h.get hi
  obtain ⟨b, o, e, hb, hr⟩ := h.at hi hx
  have := hr 0 (.int .u64 x) rfl
  refine ⟨b, o, e, hb, ?_⟩
  unfold tk
  rw [List.getD_eq_getElem?_getD, hx]
  simpa [uR] using this
theorem int_at {w : World} {A : Option Addr} {n c : Nat} {l : List Nat} (h : Rw.RS iR w A n c l) {i : Nat} {x : Nat} (hx : l[i]? = some x) : ∃ b o, A = some ⟨b, o, none⟩ ∧ b < w.heap.size ∧ w.cell? ⟨b, o + i, none⟩ = some (.int .i64 x) := by
  have hi : i < n := by have := (List.getElem?_eq_some_iff.1 hx).1; have := h.len; omega
  obtain ⟨b, o, e, hb, hr⟩ := h.at hi hx
  have := hr 0 (.int .i64 x) rfl
  exact ⟨b, o, e, hb, by simpa [iR] using this⟩
theorem flag_at {w : World} {A : Option Addr} {n c : Nat} {l : List Bool} (h : Rw.RS bR w A n c l) {i : Nat} (hi : i < n) : ∃ b o, A = some ⟨b, o, none⟩ ∧ b < w.heap.size ∧ w.cell? ⟨b, o + i, none⟩ = some (.bool (isb l i)) := by
  obtain ⟨b, o, x, e, hb, hx, hc⟩ := bool_at h hi
  refine ⟨b, o, e, hb, ?_⟩
  unfold isb
  rw [List.getD_eq_getElem?_getD, hx]
  exact hc

/-- The first n of a bag. -/
def fl (f : Nat → Nat) (n : Nat) : List Nat := (List.range n).map f
theorem fl_len (f : Nat → Nat) (n : Nat) : (fl f n).length = n := by simp [fl]
theorem fl_at {f : Nat → Nat} {n i : Nat} (h : i < n) : (fl f n)[i]? = some (f i) := by
  unfold fl
  rw [List.getElem?_map, List.getElem?_range h]; rfl
theorem fl_take (f : Nat → Nat) (n : Nat) : (fl f (n + 1)).take n = fl f n := by
  unfold fl
  rw [List.range_succ, List.map_append, List.take_left' (by simp)]
theorem fl_snc (f : Nat → Nat) (n v : Nat) : fl f n ++ [v] = fl (snc f n v) (n + 1) := by
  unfold fl
  rw [List.range_succ, List.map_append]
  congr 1
  · refine List.map_congr_left fun k hk => ?_
    have := List.mem_range.1 hk
    exact (snc_k (by omega)).symm
  · show [v] = [snc f n v n]
    rw [snc_n]
theorem fl_set {f : Nat → Nat} {n i j : Nat} (hi : i < n) (hj : j < n) : ((fl f n).set i (f j)).set j (f i) = fl (sw f i j) n := by
  refine List.ext_getElem? fun k => ?_
  by_cases hk : k < n
  · rw [fl_at hk, List.getElem?_set, List.getElem?_set]
    by_cases h1 : j = k
    · subst h1
      rw [if_pos rfl, if_pos (by rw [List.length_set, fl_len]; exact hj), sw_j]
    · rw [if_neg h1]
      by_cases h2 : i = k
      · subst h2
        rw [if_pos rfl, if_pos (by rw [fl_len]; exact hi), sw_i]
      · rw [if_neg h2, fl_at hk, sw_k (fun e => h2 e.symm) (fun e => h1 e.symm)]
  · rw [List.getElem?_eq_none (by rw [List.length_set, List.length_set, fl_len]; omega), List.getElem?_eq_none (by rw [fl_len]; omega)]

/-- A ranking in memory. -/
structure Rg (w : World) (p g cap : Nat) (T : Option Addr) (tn tc : Nat) (t : List Int) (f : Nat → Nat) (n : Nat) : Prop where
  blk : Blk w p #[.slice (some ⟨g, 0, none⟩) n cap, .slice T tn tc] 56
  row : Rw.RB iR 3 w g (fl f n) cap
  tok : Rw.RS uR w T tn tc t
  far : ∀ x, T = some x → x.block ≠ g ∧ x.block ≠ p
  lts : ∀ k, k < n → f k < tn
  cap : cap ≤ maxLen
  few : n ≤ 1000000
section
variable {w w' : World} {p g cap : Nat} {T : Option Addr} {tn tc : Nat} {t : List Int} {f : Nat → Nat} {n : Nat}
theorem Rg.ne (h : Rg w p g cap T tn tc t f n) : g ≠ p := fun e => by
  obtain ⟨cur, h1, _⟩ := h.row.blk
  subst e
  exact absurd (Rw.blk_ty h1 h.blk) (by decide)
theorem Rg.bel (h : Rg w p g cap T tn tc t f n) (hb : Bel w w') : Rg w' p g cap T tn tc t f n :=
  ⟨h.blk.bel hb, h.row.bel hb, h.tok.bel hb, h.far, h.lts, h.cap, h.few⟩
theorem Rg.kep {S : Nat → Prop} (h : Rg w p g cap T tn tc t f n) (hb : Kep S w w') (h1 : ¬ S p) (h2 : ¬ S g) (h3 : ∀ x, T = some x → ¬ S x.block) : Rg w' p g cap T tn tc t f n :=
  ⟨h.blk.kep hb h1, h.row.kep hb h2, h.tok.kep hb h3, h.far, h.lts, h.cap, h.few⟩
theorem Rg.at (h : Rg w p g cap T tn tc t f n) {i : Nat} (hi : i < n) : w.cell? ⟨g, i, none⟩ = some (.int .i64 (f i)) := by
  have h1 := h.row.rs
  rw [fl_len] at h1
  obtain ⟨b, o, e, _, hc⟩ := int_at h1 (fl_at (f := f) hi)
  injection e with e
  injection e with e1 e2
  subst e1 e2
  rwa [Nat.zero_add] at hc
theorem Rg.swap (h : Rg w p g cap T tn tc t f n) {i j : Nat} (hi : i < n) (hj : j < n) : Rg ((w.setCell ⟨g, i, none⟩ (.int .i64 (f j))).setCell ⟨g, j, none⟩ (.int .i64 (f i))) p g cap T tn tc t (sw f i j) n := by
  have hk : Kep (fun b => b = g) w ((w.setCell ⟨g, i, none⟩ (.int .i64 (f j))).setCell ⟨g, j, none⟩ (.int .i64 (f i))) := Kep.set_self (Kep.set_self (Kep.refl _ _) _ _) _ _
  have h1 := h.row.set (i := i) (o := 0) (by decide) (r' := f j) (v := .int .i64 (f j)) (fl_at (f := f) hi) rfl
  have h2 := h1.set (i := j) (o := 0) (by decide) (r := ((fl f n).set i (f j))[j]'(by rw [List.length_set, fl_len]; exact hj)) (r' := f i) (v := .int .i64 (f i)) (List.getElem?_eq_getElem _) rfl
  rw [fl_set hi hj] at h2
  refine ⟨h.blk.kep hk (fun e => h.ne e.symm), ?_, h.tok.kep hk (fun x hx => (h.far x hx).1), h.far, fun k hk => ?_, h.cap, h.few⟩
  · simpa [iR] using h2
  · rw [sw_eq]; exact h.lts _ (swp_lt hi hj hk)
end

theorem len_ (A : Option Addr) (n c : Nat) (w : World) : Calls Try.prog 34 #[.slice A n c] w fun e w' => e = .returned (.int .i64 n) ∧ w = w' := by
  go_enter Try.func34, Try.ntmps34
  go_wp2
  go_ret
  exact ⟨rfl, rfl⟩
theorem at_w (A : Option Addr) (n c : Nat) (l : List Int) (i : Nat) (w : World) (hi : Rw.RS uR w A n c l) (hn : n ≤ 1000000000) (h64 : i ≤ 1000000000) :
    Calls Try.prog 49 #[.slice A n c, .int .i64 i] w fun e w' => e = .returned (.tuple #[.int .u64 (tk l i), .bool (decide (i < n))]) ∧ w = w' := by
  by_cases h : i < n
  · obtain ⟨b, o, rfl, _, hc⟩ := word_at hi h
    have hd : decide (i < n) = true := decide_eq_true h
    have h3 : (i : Int) < n := by omega
    have h0 : (0 : Int) ≤ i := by omega
    rw [hd]
    clear hd hi
    generalize tk l i = x at *
    go_enter Try.func49, Try.ntmps49
    go_wp2
    go_ret2
    exact ⟨rfl, rfl⟩
  · have hd : decide (i < n) = false := decide_eq_false h
    have h3 : ¬ (i : Int) < n := by omega
    rw [hd, tk_out (by rw [hi.len]; omega)]
    clear hd hi
    go_enter Try.func49, Try.ntmps49
    go_wp2
    go_ret2
    exact ⟨rfl, rfl⟩
theorem at_b (A : Option Addr) (n c : Nat) (l : List Bool) (i : Nat) (w : World) (hi : Rw.RS bR w A n c l) (hn : n ≤ 1000000000) (h64 : i ≤ 1000000000) :
    Calls Try.prog 38 #[.slice A n c, .int .i64 i] w fun e w' => e = .returned (.tuple #[.bool (isb l i), .bool (decide (i < n))]) ∧ w = w' := by
  by_cases h : i < n
  · obtain ⟨b, o, rfl, _, hc⟩ := flag_at hi h
    have hd : decide (i < n) = true := decide_eq_true h
    have h3 : (i : Int) < n := by omega
    have h0 : (0 : Int) ≤ i := by omega
    rw [hd]
    clear hd hi
    generalize isb l i = x at *
    go_enter Try.func38, Try.ntmps38
    go_wp2
    go_ret2
    exact ⟨rfl, rfl⟩
  · have hd : decide (i < n) = false := decide_eq_false h
    have h3 : ¬ (i : Int) < n := by omega
    rw [hd, is_out (by rw [hi.len]; omega)]
    clear hd hi
    go_enter Try.func38, Try.ntmps38
    go_wp2
    go_ret2
    exact ⟨rfl, rfl⟩
set_option maxRecDepth 100000 in
set_option maxHeartbeats 2000000 in
theorem swap_ (g cap n : Nat) (C : Array Value) (ty : TypeId) (i j : Nat) (x y : Int) (w : World) (hi : i < n) (hj : j < n) (hn : n ≤ 1000000) (hb : Blk w g C ty) (ci : C[i]? = some (.int .i64 x)) (cj : C[j]? = some (.int .i64 y)) :
    Calls Try.prog 73 #[.slice (some ⟨g, 0, none⟩) n cap, .int .i64 i, .int .i64 j] w fun e w' => e = .returned (.tuple #[]) ∧ ∃ m, w' = ((w.setCell ⟨g, i, none⟩ (.int .i64 y)).setCell ⟨g, j, none⟩ (.int .i64 x)).drewN m := by
  have c1 := hb.cell i ci
  have c2 := hb.cell j cj
  have f1 := hb.frozen i
  have f2 := (hb.set i (.int .i64 y)).frozen j
  obtain ⟨u, hu⟩ : ∃ u, (w.setCell ⟨g, i, none⟩ (.int .i64 y)).cell? ⟨g, j, none⟩ = some u := by
    have hl : j < (C.setIfInBounds i (.int .i64 y)).size := by
      rw [Array.size_setIfInBounds]; exact (Array.getElem?_eq_some_iff.1 cj).1
    exact ⟨_, (hb.set i (.int .i64 y)).cell j (Array.getElem?_eq_getElem hl)⟩
  have i3 : (i : Int) < n := by omega
  have i0 : (0 : Int) ≤ i := by omega
  have j3 : (j : Int) < n := by omega
  have j0 : (0 : Int) ≤ j := by omega
  clear hb ci cj
  go_enter Try.func73, Try.ntmps73
  go_region
  go_wp2
  go_end0
  exact ⟨rfl, 1, rfl⟩
/-- A ranking with two changed. -/
theorem swapR {p g cap : Nat} {T : Option Addr} {tn tc : Nat} {t : List Int} {f : Nat → Nat} {n : Nat} (i j : Nat) (w : World) (h : Rg w p g cap T tn tc t f n) (hi : i < n) (hj : j < n) :
    Calls Try.prog 73 #[.slice (some ⟨g, 0, none⟩) n cap, .int .i64 i, .int .i64 j] w fun e w' => e = .returned (.tuple #[]) ∧ Rg w' p g cap T tn tc t (sw f i j) n ∧ Kep (fun b => b = g) w w' := by
  obtain ⟨C, hb, hc, hz⟩ := h.row.blk
  have at_ : ∀ k, k < n → C[k]? = some (.int .i64 (f k)) := fun k hk => by
    have h1 := Rw.flat_at iR (fl f n) k (f k) (fl_at hk) 0 (.int .i64 (f k)) rfl
    rw [← hc, List.getElem?_take] at h1
    split at h1
    · simpa [iR] using h1
    · cases h1
  refine (swap_ g cap n C _ i j _ _ w hi hj h.few hb (at_ i hi) (at_ j hj)).mono ?_
  rintro e w' ⟨rfl, m, rfl⟩
  exact ⟨rfl, (h.swap hi hj).bel ((Bel.refl _).drewN m), (Kep.set_self (Kep.set_self (Kep.refl _ _) _ _) _ _).drewN m⟩
set_option maxRecDepth 100000 in
set_option maxHeartbeats 2000000 in
theorem less_ {p g cap : Nat} {T : Option Addr} {tn tc : Nat} {t : List Int} {f : Nat → Nat} {n : Nat} (i j : Nat) (w : World) (h : Rg w p g cap T tn tc t f n) (hi : i < n) (hj : j < n) (ht : tn ≤ 1000000000) :
    Calls Try.prog 70 #[.pointer (some ⟨p, 0, none⟩), .int .i64 i, .int .i64 j] w fun e w' => e = .returned (.bool (rich t (f i) (f j))) ∧ Bel w w' := by
  have c0 := h.blk.cell 0 rfl
  have c1 := h.blk.cell 1 rfl
  have ci := h.at hi
  have cj := h.at hj
  have li := h.lts i hi
  have lj := h.lts j hj
  obtain ⟨b, o, rfl, _, ca⟩ := word_at h.tok li
  obtain ⟨b', o', e', _, cb⟩ := word_at h.tok lj
  injection e' with e'
  injection e' with e1 e2
  subst e1 e2
  have hfew := h.few
  have i3 : (i : Int) < n := by omega
  have i0 : (0 : Int) ≤ i := by omega
  have j3 : (j : Int) < n := by omega
  have j0 : (0 : Int) ≤ j := by omega
  have a3 : (f i : Int) < tn := by omega
  have a0 : (0 : Int) ≤ f i := by omega
  have b3 : (f j : Int) < tn := by omega
  have b0 : (0 : Int) ≤ f j := by omega
  have hR := Lib.hid (show ∀ z : Bool, z = rich t (f i) (f j) ↔ z = decide (tk t (f j) < tk t (f i) ∨ (tk t (f i) = tk t (f j) ∧ f i < f j)) from fun z => Iff.rfl)
  obtain ⟨z, hz⟩ : ∃ z, rich t (f i) (f j) = z := ⟨_, rfl⟩
  have HZ := Lib.hid ((hR.out z).1 hz.symm)
  rw [hz]
  clear hz hR h li lj
  generalize f i = x at *
  generalize f j = y at *
  generalize tk t x = u at *
  generalize tk t y = v at *
  go_enter Try.func70, Try.ntmps70
  go_upto_region 1 with fail
  go_quiet (fail)
  rename_i nq
  obtain ⟨W, hW⟩ : ∃ W, w.drewN nq = W := ⟨_, rfl⟩
  have K1 := Lib.hid (show Bel w W by rw [← hW]; exact (Bel.refl w).drewN nq)
  have c1 := cell_bel c1 K1.out
  have ca := cell_bel ca K1.out
  have cb := cell_bel cb K1.out
  rw [hW]
  by_cases huv : u = v
  · have hq : (u == v) = true := by simp [huv]
    have HE := Lib.hid (show z = decide (x < y) by rw [HZ.out]; simp [huv])
    have hcst : decide ((x : Int) < y) = decide (x < y) := by simp
    clear hW HZ huv
    go_upto_region 2 with fail
    go_quiet (fail)
    go_wp2_with fail
    go_ret
    exact ⟨by rw [HE.out]; rfl, by first | exact K1.out | exact K1.out.drewN _⟩
  · have hq : (u == v) = false := by simp [huv]
    have HE := Lib.hid (show z = decide (v < u) by rw [HZ.out]; simp [huv])
    clear hW HZ huv
    go_upto_region 2 with fail
    go_quiet (fail)
    obtain ⟨W2, hW2⟩ : ∃ W2, W.drewN nq = W2 := ⟨_, rfl⟩
    have K2 := Lib.hid (show Bel w W2 by rw [← hW2]; exact K1.out.drewN nq)
    have c1 := cell_bel c1 ((Bel.refl W).drewN nq)
    have ca := cell_bel ca ((Bel.refl W).drewN nq)
    have cb := cell_bel cb ((Bel.refl W).drewN nq)
    rw [hW2] at c1 ca cb ⊢
    clear hW2 hq
    go_upto_region 4 with fail
    go_quiet (fail)
    go_wp2_with fail
    go_ret
    exact ⟨by rw [HE.out]; rfl, by first | exact K2.out | exact K2.out.drewN _⟩

/-- A ranking of one's own: what eligible grows. -/
structure Ro_ (w0 w : World) (p : Nat) (v : Value) (T : Option Addr) (tn tc : Nat) (t : List Int) (f : Nat → Nat) (n : Nat) : Prop where
  bel : Bel w0 w
  new : w0.heap.size ≤ p
  blk : Blk w p #[v, .slice T tn tc] 56
  own : Rw.OwnR iR 3 w w0.heap.size v (fl f n)
  tok : Rw.RS uR w0 T tn tc t
  lts : ∀ k, k < n → f k < tn
  few : n ≤ 1000000
theorem Ro_.rg {w0 w : World} {p : Nat} {v : Value} {T : Option Addr} {tn tc : Nat} {t : List Int} {f : Nat → Nat} {n : Nat} (h : Ro_ w0 w p v T tn tc t f n) (hn : 0 < n) (htn : 0 < tn) : ∃ g cap, v = .slice (some ⟨g, 0, none⟩) n cap ∧ w0.heap.size ≤ g ∧ Rg w p g cap T tn tc t f n := by
  obtain ⟨g, cap, e, hg, hrb, hm⟩ := Rw.rb_own iR h.own (by rw [fl_len]; exact hn)
  rw [fl_len] at e
  subst e
  refine ⟨g, cap, rfl, hg, h.blk, hrb, h.tok.bel h.bel, fun x hx => ?_, h.lts, hm, h.few⟩
  obtain ⟨b, o, e, hlt, _⟩ := h.tok.row htn
  rw [hx] at e
  injection e with e
  subst e
  have := h.new
  exact ⟨fun e => by simp at e; omega, fun e => by simp at e; omega⟩
theorem own_rg {w0 w : World} {p g cap : Nat} {T : Option Addr} {tn tc : Nat} {t : List Int} {f : Nat → Nat} {n : Nat} (h : Rg w p g cap T tn tc t f n) (hb : Bel w0 w) (hp : w0.heap.size ≤ p) (hg : w0.heap.size ≤ g) (ht : Rw.RS uR w0 T tn tc t) : Ro_ w0 w p (.slice (some ⟨g, 0, none⟩) n cap) T tn tc t f n := by
  refine ⟨hb, hp, h.blk, ?_, ht, h.lts, h.few⟩
  obtain ⟨cur, h1, h2, h3⟩ := h.row.blk
  have hc := h.row.cap
  rw [fl_len] at h2 hc
  refine ⟨by rw [Rw.flat_len, fl_len], .inr ⟨g, cap, cur, ?_, hg, h1, ?_, h.cap, h3, ?_⟩⟩
  · rw [fl_len]
  · rw [fl_len]; exact hc
  · rw [fl_len]; exact h2
end Ac
end Go.Proofs.Ytmbodfmdaocppaa
