/-
  The law's 'reads', kind by kind: a number within bounds.
  Conditions: two readers side by side; a thing's 38 cells.
-/
import Derived.Test.YtejbhfcmhijfcaaReads2
namespace Go.Proofs.Ytejbhfcmhijfcaa
open Go.RowKit Go.Shelf
set_option linter.unusedVariables false
namespace Cd

set_option maxRecDepth 100000 in
set_option maxHeartbeats 1000000 in
theorem reads_1 (b d : Nat) (A A2 : Option Addr) (n c c2 : Nat) (zs : List Int) (k : Nat) (f : Option (Int × Int)) (cs : Array Value) (x er least : Int) (w : World) (h : Both w b d A A2 n c c2 zs k f) (ha : Apart b d A A2 n) (hb : Bytes zs) (c0 : cs[0]? = some (.int .i64 1)) (c1 : cs[1]? = some (.int .i64 x)) (c37 : cs[37]? = some (.int .i64 er)) (x1 : x ≤ 9223372036854775807) (c2_ : cs[2]? = some (.int .i64 least)) (l1 : least ≤ 9223372036854775807) :
    Calls Try.prog 21 #[.pointer (some ⟨b, 0, none⟩), .pointer (some ⟨d, 0, none⟩), .agg cs] w fun e w' => e = .returned (.bool true) ∧ (∃ k' f', Both w' b d A A2 n c c2 zs k' f') ∧ Kep (Two b d) w w' := by
  have hk : k ≤ zs.length := h.1.rs.le.1
  have hzl : zs.length ≤ 1000000 := h.1.rs.le.2
  have hA := (Bel.refl w).alloc (.cells cs 46)
  have hG := Blk.new w cs 46
  have hbl : b < w.heap.size := h.1.rs.lt
  have hdl : d < w.heap.size := h.2.lt
  obtain ⟨W, hW⟩ : ∃ W, w.alloc (.cells cs 46) = W := ⟨_, rfl⟩
  rw [hW] at hA hG
  have hdW : d < W.heap.size := Nat.lt_of_lt_of_le hdl (Below.size hA)
  have HA := Lib.hid (Kep.of_bel (S := Two b d) hA)
  have H := Lib.hid (h.bel hA)
  have j0 : W.cell? ⟨w.heap.size, 0, none⟩ = some (.int .i64 1) := hG.cell 0 c0
  have j1 : W.cell? ⟨w.heap.size, 1, none⟩ = some (.int .i64 x) := hG.cell 1 c1
  have j37 : W.cell? ⟨w.heap.size, 37, none⟩ = some (.int .i64 er) := hG.cell 37 c37
  have HC := Lib.hid (fun w' (hk : Kep (Two b d) W w') => (⟨(kep_cell hk hG (by omega) (by omega)).cell 1 c1, (kep_cell hk hG (by omega) (by omega)).cell 37 c37⟩ : w'.cell? ⟨w.heap.size, 1, none⟩ = some (.int .i64 x) ∧ w'.cell? ⟨w.heap.size, 37, none⟩ = some (.int .i64 er)))
  obtain ⟨v, k', f', hru, hk'⟩ := rn_any zs hb k f least x hk
  have j2 : W.cell? ⟨w.heap.size, 2, none⟩ = some (.int .i64 least) := hG.cell 2 c2_
  have HC2 := Lib.hid (fun w' (hk : Kep (Two b d) W w') => (kep_cell hk hG (by omega) (by omega)).cell 2 c2_)
  have NY := Lib.hid (fun w' (hB : Bel W w') => (yN d b A n c zs k f least x v k' f' w' (H.out.1.bel hB) hru x1 (Nat.lt_of_lt_of_le hdW (Below.size hB))).mono (R' := fun r w1 => r = .returned (.int .i64 v) ∧ Hid (RD d w1 b A n c zs k' f') ∧ Hid (QT w1 d A2 n c2 zs k f) ∧ Hid (Kep (Two b d) W w1) ∧ w1.cell? ⟨w.heap.size, 1, none⟩ = some (.int .i64 x) ∧ w1.cell? ⟨w.heap.size, 2, none⟩ = some (.int .i64 least)) fun r w1 hr =>
    have hK : Kep (Two b d) W w1 := (Kep.of_bel hB).trans (kep_one hr.2.2)
    ⟨hr.1, hr.2.1, (H.out.2.bel hB).aside ha hr.2.2, hK, (HC.out w1 hK).1, HC2.out w1 hK⟩)
  have NT := Lib.hid (fun w1 (hR : Hid (RD d w1 b A n c zs k' f')) (hQ : Hid (QT w1 d A2 n c2 zs k f)) (hK : Hid (Kep (Two b d) W w1)) => (tN d A2 n c2 zs k f least x v k' f' w1 hQ.out hru l1 x1).mono (R' := fun r w2 => r = .returned (.int .i64 v) ∧ Hid (Both w2 b d A A2 n c c2 zs k' f') ∧ Hid (Kep (Two b d) W w2) ∧ w2.cell? ⟨w.heap.size, 1, none⟩ = some (.int .i64 x) ∧ w2.cell? ⟨w.heap.size, 2, none⟩ = some (.int .i64 least)) fun r w2 hr =>
    have hK2 : Kep (Two b d) W w2 := hK.out.trans (kep_two hr.2.2)
    ⟨hr.1, ⟨hR.out.aside ha hr.2.2, hr.2.1⟩, hK2, (HC.out w2 hK2).1, HC2.out w2 hK2⟩)
  clear c2_
  clear hA hG h c0 c1 c37
  go_enter Try.func21, Try.ntmps21
  go_upto_region 5 with fail
  go_region_held3 (fun w' => w'.cell? ⟨w.heap.size, 1, none⟩ = some (.int .i64 x) ∧ w'.cell? ⟨w.heap.size, 2, none⟩ = some (.int .i64 least)) (go_keep)
    (first | (go_at_call 35; refine (NY.out _ ?_).mono ?_; exact (Bel.refl _).drew; rintro r w1 ⟨rfl, hR, hQ, hK, k1, k2⟩) | (go_at_call 50; refine (NT.out _ hR hQ hK).mono ?_; rintro r w2 ⟨rfl, hBo, hK2, m1, m2⟩))
  all_goals
    have HKF := Lib.hid (HA.out.trans hK2.out)
    go_wp2
    go_ret
    exact ⟨by simp, ⟨k', f', hBo.out⟩, HKF.out⟩
end Cd
end Go.Proofs.Ytejbhfcmhijfcaa
