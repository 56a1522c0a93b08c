/-
  The law's 'reads', kind by kind: a number, bytes, a fault, nothing.
  Conditions: two readers side by side; a thing's 38 cells.
-/
import Derived.Test.YtejbhfcmhijfcaaReads0
namespace Go.Proofs.Ytejbhfcmhijfcaa
open Go.RowKit Go.Shelf
set_option linter.unusedVariables false
namespace Cd

theorem RD.over {d : Nat} {w w' : World} {b : Nat} {A : Option Addr} {n c : Nat} {zs : List Int} {k : Nat} {f : Option (Int × Int)} {v : Value} {m base : Nat} {ys : List Value} (h : RD d w b A n c zs k f) (ho : w.ownsRow base 5 1 v m ys) (h1 : b < base) (h2 : 0 < n → ∀ x : Addr, A = some x → x.block < base) (hk : Kep (fun q => v.ownBlock = some q) w w') : RD d w' b A n c zs k f := by
  obtain ⟨F, g1, g2, g3⟩ := h
  refine ⟨F, g1.kep0 hk (fun e => by have := (ho.lt _ e).1; omega) (fun hn x hx e => by have := h2 hn x hx; have := (ho.lt _ e).1; omega), ?_, g3⟩
  rcases g2 with g2 | ⟨e, p, fb, q1, q2, q3, q4, q5⟩
  · exact .inl g2
  · exact .inr ⟨e, p, fb, q1, q2, q3, q4.kep hk (fun e => q4.not_row (by decide) ho e), q5⟩
theorem kep_cell {b d : Nat} {W w' : World} (hk : Kep (Two b d) W w') {g : Nat} {cs : Array Value} {t : TypeId} (h : Blk W g cs t) (h1 : g ≠ b) (h2 : g ≠ d) : Blk w' g cs t := h.kep hk (fun hS => by rcases hS with e | e <;> omega)

set_option maxRecDepth 100000 in
set_option maxHeartbeats 1000000 in
theorem reads_0 (b d : Nat) (A A2 : Option Addr) (n c c2 : Nat) (zs : List Int) (k : Nat) (f : Option (Int × Int)) (cs : Array Value) (x er : Int) (w : World) (h : Both w b d A A2 n c c2 zs k f) (ha : Apart b d A A2 n) (hb : Bytes zs) (c0 : cs[0]? = some (.int .i64 0)) (c1 : cs[1]? = some (.int .i64 x)) (c37 : cs[37]? = some (.int .i64 er)) (x1 : x ≤ 9223372036854775807) :
    Calls Try.prog 21 #[.pointer (some ⟨b, 0, none⟩), .pointer (some ⟨d, 0, none⟩), .agg cs] w fun e w' => e = .returned (.bool true) ∧ (∃ k' f', Both w' b d A A2 n c c2 zs k' f') ∧ Kep (Two b d) w w' := by
  have hk : k ≤ zs.length := h.1.rs.le.1
  have hzl : zs.length ≤ 1000000 := h.1.rs.le.2
  have hA := (Bel.refl w).alloc (.cells cs 46)
  have hG := Blk.new w cs 46
  have hbl : b < w.heap.size := h.1.rs.lt
  have hdl : d < w.heap.size := h.2.lt
  obtain ⟨W, hW⟩ : ∃ W, w.alloc (.cells cs 46) = W := ⟨_, rfl⟩
  rw [hW] at hA hG
  have hdW : d < W.heap.size := Nat.lt_of_lt_of_le hdl (Below.size hA)
  have HA := Lib.hid (Kep.of_bel (S := Two b d) hA)
  have H := Lib.hid (h.bel hA)
  have j0 : W.cell? ⟨w.heap.size, 0, none⟩ = some (.int .i64 0) := hG.cell 0 c0
  have j1 : W.cell? ⟨w.heap.size, 1, none⟩ = some (.int .i64 x) := hG.cell 1 c1
  have j37 : W.cell? ⟨w.heap.size, 37, none⟩ = some (.int .i64 er) := hG.cell 37 c37
  have HC := Lib.hid (fun w' (hk : Kep (Two b d) W w') => (⟨(kep_cell hk hG (by omega) (by omega)).cell 1 c1, (kep_cell hk hG (by omega) (by omega)).cell 37 c37⟩ : w'.cell? ⟨w.heap.size, 1, none⟩ = some (.int .i64 x) ∧ w'.cell? ⟨w.heap.size, 37, none⟩ = some (.int .i64 er)))
  obtain ⟨v, k', f', hru, hk'⟩ := ru_any zs hb k f hk
  clear hA hG h c0 c1 c37
  go_enter Try.func21, Try.ntmps21
  go_wp2_with fail
  refine (yU d b A n c zs k f v k' f' W H.out.1 hru hdW).mono ?_
  rintro e w1 ⟨rfl, h1, hk1⟩
  have HR := Lib.hid h1
  have HQ := Lib.hid (H.out.2.aside ha hk1)
  have HK := Lib.hid hk1
  clear h1 hk1
  go_wp2_with fail
  refine (tU d A2 n c2 zs k f v k' f' w1 HQ.out hru).mono ?_
  rintro e w2 ⟨rfl, h2, hk2⟩
  have HB : Hid (Both w2 b d A A2 n c c2 zs k' f') := ⟨HR.out.aside ha hk2, h2⟩
  have HK2 := Lib.hid ((HA.out.trans (kep_one HK.out)).trans (kep_two hk2))
  clear h2 hk2
  go_wp2
  go_ret
  exact ⟨by simp, ⟨k', f', HB.out⟩, HK2.out⟩

set_option maxRecDepth 100000 in
set_option maxHeartbeats 1000000 in
theorem reads_4 (b d : Nat) (A A2 : Option Addr) (n c c2 : Nat) (zs : List Int) (k : Nat) (f : Option (Int × Int)) (cs : Array Value) (x er : Int) (w : World) (h : Both w b d A A2 n c c2 zs k f) (ha : Apart b d A A2 n) (hb : Bytes zs) (c0 : cs[0]? = some (.int .i64 4)) (c1 : cs[1]? = some (.int .i64 x)) (c37 : cs[37]? = some (.int .i64 er)) (x1 : x ≤ 9223372036854775807) :
    Calls Try.prog 21 #[.pointer (some ⟨b, 0, none⟩), .pointer (some ⟨d, 0, none⟩), .agg cs] w fun e w' => e = .returned (.bool true) ∧ (∃ k' f', Both w' b d A A2 n c c2 zs k' f') ∧ Kep (Two b d) w w' := by
  have hk : k ≤ zs.length := h.1.rs.le.1
  have hzl : zs.length ≤ 1000000 := h.1.rs.le.2
  have hA := (Bel.refl w).alloc (.cells cs 46)
  have hG := Blk.new w cs 46
  have hbl : b < w.heap.size := h.1.rs.lt
  have hdl : d < w.heap.size := h.2.lt
  obtain ⟨W, hW⟩ : ∃ W, w.alloc (.cells cs 46) = W := ⟨_, rfl⟩
  rw [hW] at hA hG
  have hdW : d < W.heap.size := Nat.lt_of_lt_of_le hdl (Below.size hA)
  have HA := Lib.hid (Kep.of_bel (S := Two b d) hA)
  have H := Lib.hid (h.bel hA)
  have j0 : W.cell? ⟨w.heap.size, 0, none⟩ = some (.int .i64 4) := hG.cell 0 c0
  have j1 : W.cell? ⟨w.heap.size, 1, none⟩ = some (.int .i64 x) := hG.cell 1 c1
  have j37 : W.cell? ⟨w.heap.size, 37, none⟩ = some (.int .i64 er) := hG.cell 37 c37
  have HC := Lib.hid (fun w' (hk : Kep (Two b d) W w') => (⟨(kep_cell hk hG (by omega) (by omega)).cell 1 c1, (kep_cell hk hG (by omega) (by omega)).cell 37 c37⟩ : w'.cell? ⟨w.heap.size, 1, none⟩ = some (.int .i64 x) ∧ w'.cell? ⟨w.heap.size, 37, none⟩ = some (.int .i64 er)))
  clear hA hG h c0 c1 c37
  go_enter Try.func21, Try.ntmps21
  go_wp2_with fail
  refine (yFail d b A n c zs k f er x W H.out.1 hdW).mono ?_
  rintro e w1 ⟨rfl, h1, hk1⟩
  have HR := Lib.hid h1
  have HQ := Lib.hid (H.out.2.aside ha hk1)
  have HK := Lib.hid hk1
  obtain ⟨j1', j37'⟩ := HC.out w1 (kep_one hk1)
  clear h1 hk1
  go_wp2_with fail
  refine (tFail d A2 n c2 zs k f er x w1 HQ.out).mono ?_
  rintro e w2 ⟨rfl, h2, hk2⟩
  have HB : Hid (Both w2 b d A A2 n c c2 zs k (failOf f er x)) := ⟨HR.out.aside ha hk2, h2⟩
  have HK2 := Lib.hid ((HA.out.trans (kep_one HK.out)).trans (kep_two hk2))
  clear h2 hk2
  go_wp2
  go_ret
  exact ⟨rfl, ⟨k, _, HB.out⟩, HK2.out⟩

set_option maxRecDepth 100000 in
set_option maxHeartbeats 1000000 in
theorem reads_else (b d : Nat) (A A2 : Option Addr) (n c c2 : Nat) (zs : List Int) (k : Nat) (f : Option (Int × Int)) (cs : Array Value) (x er kind : Int) (w : World) (h : Both w b d A A2 n c c2 zs k f) (ha : Apart b d A A2 n) (hb : Bytes zs) (c0 : cs[0]? = some (.int .i64 kind)) (c1 : cs[1]? = some (.int .i64 x)) (c37 : cs[37]? = some (.int .i64 er)) (x1 : x ≤ 9223372036854775807) (g0 : (kind == 0) = false) (g1 : (kind == 1) = false) (g2 : (kind == 2) = false) (g3 : (kind == 3) = false) (g4 : (kind == 4) = false) :
    Calls Try.prog 21 #[.pointer (some ⟨b, 0, none⟩), .pointer (some ⟨d, 0, none⟩), .agg cs] w fun e w' => e = .returned (.bool true) ∧ (∃ k' f', Both w' b d A A2 n c c2 zs k' f') ∧ Kep (Two b d) w w' := by
  have hk : k ≤ zs.length := h.1.rs.le.1
  have hzl : zs.length ≤ 1000000 := h.1.rs.le.2
  have hA := (Bel.refl w).alloc (.cells cs 46)
  have hG := Blk.new w cs 46
  have hbl : b < w.heap.size := h.1.rs.lt
  have hdl : d < w.heap.size := h.2.lt
  obtain ⟨W, hW⟩ : ∃ W, w.alloc (.cells cs 46) = W := ⟨_, rfl⟩
  rw [hW] at hA hG
  have hdW : d < W.heap.size := Nat.lt_of_lt_of_le hdl (Below.size hA)
  have HA := Lib.hid (Kep.of_bel (S := Two b d) hA)
  have H := Lib.hid (h.bel hA)
  have j0 : W.cell? ⟨w.heap.size, 0, none⟩ = some (.int .i64 kind) := hG.cell 0 c0
  have j1 : W.cell? ⟨w.heap.size, 1, none⟩ = some (.int .i64 x) := hG.cell 1 c1
  have j37 : W.cell? ⟨w.heap.size, 37, none⟩ = some (.int .i64 er) := hG.cell 37 c37
  have HC := Lib.hid (fun w' (hk : Kep (Two b d) W w') => (⟨(kep_cell hk hG (by omega) (by omega)).cell 1 c1, (kep_cell hk hG (by omega) (by omega)).cell 37 c37⟩ : w'.cell? ⟨w.heap.size, 1, none⟩ = some (.int .i64 x) ∧ w'.cell? ⟨w.heap.size, 37, none⟩ = some (.int .i64 er)))
  clear hA hG h c0 c1 c37
  go_enter Try.func21, Try.ntmps21
  go_wp2
  go_ret
  exact ⟨rfl, ⟨k, f, H.out⟩, HA.out⟩

set_option maxRecDepth 100000 in
set_option maxHeartbeats 1000000 in
theorem reads_3 (b d : Nat) (A A2 : Option Addr) (n c c2 : Nat) (zs : List Int) (k : Nat) (f : Option (Int × Int)) (cs : Array Value) (x er : Int) (w : World) (h : Both w b d A A2 n c c2 zs k f) (ha : Apart b d A A2 n) (hb : Bytes zs) (c0 : cs[0]? = some (.int .i64 3)) (c1 : cs[1]? = some (.int .i64 x)) (c37 : cs[37]? = some (.int .i64 er)) (x1 : x ≤ 9223372036854775807) :
    Calls Try.prog 21 #[.pointer (some ⟨b, 0, none⟩), .pointer (some ⟨d, 0, none⟩), .agg cs] w fun e w' => e = .returned (.bool true) ∧ (∃ k' f', Both w' b d A A2 n c c2 zs k' f') ∧ Kep (Two b d) w w' := by
  have hk : k ≤ zs.length := h.1.rs.le.1
  have hzl : zs.length ≤ 1000000 := h.1.rs.le.2
  have hA := (Bel.refl w).alloc (.cells cs 46)
  have hG := Blk.new w cs 46
  have hbl : b < w.heap.size := h.1.rs.lt
  have hdl : d < w.heap.size := h.2.lt
  obtain ⟨W, hW⟩ : ∃ W, w.alloc (.cells cs 46) = W := ⟨_, rfl⟩
  rw [hW] at hA hG
  have hdW : d < W.heap.size := Nat.lt_of_lt_of_le hdl (Below.size hA)
  have HA := Lib.hid (Kep.of_bel (S := Two b d) hA)
  have H := Lib.hid (h.bel hA)
  have j0 : W.cell? ⟨w.heap.size, 0, none⟩ = some (.int .i64 3) := hG.cell 0 c0
  have j1 : W.cell? ⟨w.heap.size, 1, none⟩ = some (.int .i64 x) := hG.cell 1 c1
  have j37 : W.cell? ⟨w.heap.size, 37, none⟩ = some (.int .i64 er) := hG.cell 37 c37
  have HC := Lib.hid (fun w' (hk : Kep (Two b d) W w') => (⟨(kep_cell hk hG (by omega) (by omega)).cell 1 c1, (kep_cell hk hG (by omega) (by omega)).cell 37 c37⟩ : w'.cell? ⟨w.heap.size, 1, none⟩ = some (.int .i64 x) ∧ w'.cell? ⟨w.heap.size, 37, none⟩ = some (.int .i64 er)))
  obtain ⟨ys, k', f', hru, hk', hyl⟩ := rb_any zs hb k f x hk
  clear hA hG h c0 c1 c37
  go_enter Try.func21, Try.ntmps21
  go_wp2_with fail
  refine (yB d b A n c zs k f x ys k' f' W H.out.1 hru x1 hdW).mono ?_
  rintro e w1 ⟨v, rfl, ho, h1, hk1⟩
  obtain ⟨A3, c3, hv, hs⟩ := sl_of_own ho
  subst hv
  have HO := Lib.hid ho
  have HR := Lib.hid h1
  have HQ := Lib.hid (H.out.2.aside ha hk1)
  have HK := Lib.hid hk1
  have hub := Lib.hid (own_block_ge ho)
  obtain ⟨j1', j37'⟩ := HC.out w1 (kep_one hk1)
  have hw1 : W.heap.size ≤ w1.heap.size := hk1.size
  clear h1 hk1 ho hs
  go_wp2_with fail
  refine (tBlob d A2 n c2 zs k f x ys k' f' w1 HQ.out hru x1).mono ?_
  rintro e w2 ⟨v2, rfl, ho2, h2, hk2⟩
  obtain ⟨A4, c4, hv, hs2⟩ := sl_of_own ho2
  subst hv
  have HB : Hid (Both w2 b d A A2 n c c2 zs k' f') := ⟨HR.out.aside ha hk2, h2⟩
  have HK2 := Lib.hid ((HA.out.trans (kep_one HK.out)).trans (kep_two hk2))
  have HO2 := Lib.hid (hk2.owns (fun q hq e => by have := (HO.out.lt q hq).1; omega) HO.out)
  obtain ⟨A5, c5, hv5, hs5⟩ := sl_of_own HO2.out
  injection hv5 with e1 e2 e3
  subst e1 e3
  have HS1 := Lib.hid hs5
  have HS2 := Lib.hid hs2
  clear h2 hk2 ho2 hs2 hs5
  go_wp2_with fail
  refine (same A3 A4 _ c3 _ c4 ys w2 HS1.out.ints HS2.out.ints).mono ?_
  rintro e w3 ⟨rfl, rfl⟩
  have OV := Lib.hid (over_any W.heap.size ys.length _ ys w2 (by omega) HO2.out)
  have HOB := Lib.hid (fun q hq => (HO2.out.lt q hq).1)
  go_wp2_with fail
  refine (OV.out).mono ?_
  rintro e w4 ⟨rfl, hk4⟩
  have hWw : w.heap.size ≤ W.heap.size := HA.out.size
  have HB4 : Hid (Both w4 b d A A2 n c c2 zs k' f') := ⟨HB.out.1.over HO2.out (by omega) (fun hn x hx => by have := ha.a hn x hx; omega) hk4, HB.out.2.kep hk4 (fun e => by have := HOB.out _ e; omega) (fun hn x hx e => by have := (ha.a2 hn x hx).1; have := HOB.out _ e; omega)⟩
  have HK4 := Lib.hid (kep_past HK2.out hk4 (fun q hq => by have := HOB.out _ hq; omega))
  clear hk4
  go_wp2
  go_ret
  exact ⟨rfl, ⟨k', f', HB4.out⟩, HK4.out⟩
end Cd
end Go.Proofs.Ytejbhfcmhijfcaa
