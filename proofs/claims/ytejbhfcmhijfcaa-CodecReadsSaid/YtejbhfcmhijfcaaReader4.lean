/-
  What Blob of a reader answers in this program, and its items in general.
  Conditions: the reader is one that NewReader made of at most 10^6 bytes.
-/
import Derived.Test.YtejbhfcmhijfcaaReader3
namespace Go.Proofs.Ytejbhfcmhijfcaa
open Go.RowKit Go.Shelf
set_option linter.unusedVariables false
namespace Cd

/-- What Blob tells: the bytes, the place behind them, or a fault. -/
def BWay (zs : List Int) (k : Nat) (most : Int) (ys : List Int) (tl e bad : Int) : Prop :=
  ∃ x0 t0 e0 b0, Way zs k x0 t0 e0 b0 ∧ 0 ≤ x0 ∧ x0 ≤ 18446744073709551615 ∧ ((e0 ≠ 0 ∧ ys = [] ∧ tl = 0 ∧ e = e0 ∧ bad = b0) ∨ (e0 = 0 ∧ (most < 0 ∨ most < x0) ∧ ys = [] ∧ tl = 0 ∧ e = 4 ∧ bad = k) ∨
    (∃ t : Nat, t0 = t ∧ t ≤ zs.length ∧ e0 = 0 ∧ 0 ≤ most ∧ x0 ≤ most ∧ (zs.length : Int) - t < x0 ∧ ys = [] ∧ tl = 0 ∧ e = 6 ∧ bad = k) ∨
    (∃ t m : Nat, t0 = t ∧ x0 = m ∧ t + m ≤ zs.length ∧ e0 = 0 ∧ 0 ≤ most ∧ x0 ≤ most ∧ ys = (zs.drop t).take m ∧ tl = ((t + m : Nat) : Int) ∧ e = 0 ∧ bad = 0))
abbrev gotV (v : Value) (tl e bad : Int) : Value := .tuple #[v, .int .i64 tl, .agg #[.int .i64 e, .int .i64 bad]]

/-- A part of a slice, as the program cuts it. -/
theorem sl_part {A : Option Addr} {n c : Nat} {zs : List Int} {w : World} (hs : Sl w A n c zs) (k m : Nat) (hk : k + m ≤ n) :
    ∃ A', (∀ w' : World, (Instr.slice 23 (.slice A n c) (some (.int .i64 (k : Int))) (some (.int .i64 ((k + m : Nat) : Int))) none).run Try.prog w' = .ok (.slice A' m (c - k)) w') ∧ Sl w A' m (c - k) ((zs.drop k).take m) := by
  have hc := hs.cap
  refine ⟨_, fun w' => ?_, hs.ints.part hk hc, by omega, fun h => ?_⟩
  · rw [slice_lh A n c k ((k + m : Nat) : Int) w' (by omega) (by omega) (by omega)]
    simp only [Int.toNat_natCast, Nat.add_sub_cancel_left]
  · split at h
    · omega
    · have : A = none := by cases A with | none => rfl | some a => simp at h
      have := hs.nil this
      omega

set_option maxRecDepth 100000 in
set_option maxHeartbeats 1000000 in
theorem blob1 (A : Option Addr) (n c : Nat) (zs : List Int) (k : Nat) (most : Int) (ys : List Int) (tl e bad : Int) (p : Nat) (w : World) (hs : Sl w A n c zs) (hn : n ≤ 1000000) (hb : Bytes zs) (hw : BWay zs k most ys tl e bad)
    (hp : w.cell? ⟨p, 0, none⟩ = some (.int .i64 most)) (hm : most ≤ 9223372036854775807) :
    Calls Try.prog 64 #[.slice A n c, .int .i64 (k : Int), .pointer (some ⟨p, 0, none⟩)] w fun r w' => ∃ v, r = .returned (gotV v tl e bad) ∧ Fresh w w' v ys := by
  obtain ⟨x0, t0, e0, b0, hw0, h0, h1, hcs⟩ := hw
  have G := Lib.hid (fun w' (hw : Bel w w') => get A n c zs k x0 t0 e0 b0 w' (hs.bel hw).ints (by omega) hb hs.cap hw0)
  have HP := Lib.hid hp
  have HS := Lib.hid hs
  have hlen := hs.len
  clear hs hb hw0 hp
  rcases hcs with ⟨he, rfl, rfl, rfl, rfl⟩ | ⟨rfl, hx, rfl, rfl, rfl, rfl⟩ | ⟨t, rfl, htl, rfl, hm0, hx1, hx2, rfl, rfl, rfl, rfl⟩ | ⟨t, m, rfl, rfl, htl, rfl, hm0, hx1, rfl, rfl, rfl, rfl⟩
  · have fe : (e != 0) = true := by rw [bne_iff_ne]; exact he
    clear he
    go_enter Try.func64, Try.ntmps64
    go_wp2_with fail
    refine (G.out _ ((Bel.refl _).alloc _)).mono ?_
    rintro r w1 ⟨rfl, hb1⟩
    have hbel : Bel w w1 := ((Bel.refl w).alloc _).trans hb1
    have B0 := (Blk.new w #[.int .i64 0, .int .i64 0] 29).bel hb1
    have d0 : w1.cell? ⟨w.heap.size, 0, none⟩ = some (.int .i64 0) := B0.cell 0 rfl
    have d1 : w1.cell? ⟨w.heap.size, 1, none⟩ = some (.int .i64 0) := B0.cell 1 rfl
    have d2 := B0.frozen 0
    have d3 := B0.frozen 1
    have hsz : w.heap.size < w1.heap.size := by have := Below.size hb1; simp at this; omega
    clear hb1 B0
    go_wp2_with fail
    go_region
    go_wp2
    refine bodyPost_ret (v := gotV (.slice none 0 0) 0 e bad) (by simp [results, Try.results64, go_sem, d0, d1, hsz]) rfl ⟨_, rfl, World.ownsRow_nil _ _ _ _, ?_⟩
    first
      | exact ((hbel.set (Nat.le_refl _) _).set (Nat.le_refl _) _).alloc _
      | exact (((hbel.set (Nat.le_refl _) _).set (Nat.le_refl _) _).alloc _).drew
  · have hcs : decide (most < 0) = true ∨ (0 ≤ most ∧ decide (most < 0) = false ∧ decide (most < x0) = true) := by
      rcases Int.lt_or_le most 0 with h | h
      · exact .inl (decide_eq_true h)
      · exact .inr ⟨h, decide_eq_false (by omega), decide_eq_true (by omega)⟩
    clear hx
    go_enter Try.func64, Try.ntmps64
    go_wp2_with fail
    refine (G.out _ ((Bel.refl _).alloc _)).mono ?_
    rintro r w1 ⟨rfl, hb1⟩
    have hbel : Bel w w1 := ((Bel.refl w).alloc _).trans hb1
    have B0 := (Blk.new w #[.int .i64 0, .int .i64 0] 29).bel hb1
    have d0 : w1.cell? ⟨w.heap.size, 0, none⟩ = some (.int .i64 0) := B0.cell 0 rfl
    have d1 : w1.cell? ⟨w.heap.size, 1, none⟩ = some (.int .i64 0) := B0.cell 1 rfl
    have d2 := B0.frozen 0
    have d3 := B0.frozen 1
    have hsz : w.heap.size < w1.heap.size := by have := Below.size hb1; simp at this; omega
    have k1 : w1.cell? ⟨p, 0, none⟩ = some (.int .i64 most) := (Kep.of_bel (S := fun _ => False) hbel).cell id HP.out
    have l1 : p < w1.heap.size := World.block_lt_of_cell? w1 ⟨p, 0, none⟩ k1
    clear hb1 B0
    rcases hcs with f1 | ⟨f0, f1, f2⟩
    all_goals
      go_wp2
      refine bodyPost_ret (v := gotV (.slice none 0 0) 0 4 k) (by simp [results, Try.results64, go_sem, d0, d1, hsz]) rfl ⟨_, rfl, World.ownsRow_nil _ _ _ _, ?_⟩
      first
        | exact ((hbel.set (Nat.le_refl _) _).set (Nat.le_refl _) _).alloc _
        | exact (((hbel.set (Nat.le_refl _) _).set (Nat.le_refl _) _).alloc _).drew
  · have f1 : decide (most < 0) = false := decide_eq_false (by omega)
    have f2 : decide (most < x0) = false := decide_eq_false (by omega)
    have e1 : (0 : Int) ≤ (n : Int) - (t : Int) := by omega
    have f3 : decide ((n : Int) - (t : Int) < x0) = true := decide_eq_true (by omega)
    have htn : (t : Int) ≤ (n : Int) := by omega
    clear hx2
    go_enter Try.func64, Try.ntmps64
    go_wp2_with fail
    refine (G.out _ ((Bel.refl _).alloc _)).mono ?_
    rintro r w1 ⟨rfl, hb1⟩
    have hbel : Bel w w1 := ((Bel.refl w).alloc _).trans hb1
    have B0 := (Blk.new w #[.int .i64 0, .int .i64 0] 29).bel hb1
    have d0 : w1.cell? ⟨w.heap.size, 0, none⟩ = some (.int .i64 0) := B0.cell 0 rfl
    have d1 : w1.cell? ⟨w.heap.size, 1, none⟩ = some (.int .i64 0) := B0.cell 1 rfl
    have d2 := B0.frozen 0
    have d3 := B0.frozen 1
    have hsz : w.heap.size < w1.heap.size := by have := Below.size hb1; simp at this; omega
    have k1 : w1.cell? ⟨p, 0, none⟩ = some (.int .i64 most) := (Kep.of_bel (S := fun _ => False) hbel).cell id HP.out
    have l1 : p < w1.heap.size := World.block_lt_of_cell? w1 ⟨p, 0, none⟩ k1
    clear hb1 B0
    go_wp2
    refine bodyPost_ret (v := gotV (.slice none 0 0) 0 6 k) (by simp [results, Try.results64, go_sem, d0, d1, hsz]) rfl ⟨_, rfl, World.ownsRow_nil _ _ _ _, ?_⟩
    first
      | exact ((hbel.set (Nat.le_refl _) _).set (Nat.le_refl _) _).alloc _
      | exact (((hbel.set (Nat.le_refl _) _).set (Nat.le_refl _) _).alloc _).drew
  · have f1 : decide (most < 0) = false := decide_eq_false (by omega)
    have f2 : decide (most < (m : Int)) = false := decide_eq_false (by omega)
    have e1 : (0 : Int) ≤ (n : Int) - (t : Int) := by omega
    have f3 : decide ((n : Int) - (t : Int) < (m : Int)) = false := decide_eq_false (by omega)
    have hmm : m ≤ 1000000 := by omega
    have htm : t ≤ 1000000 := by omega
    obtain ⟨A', hsl, hi'⟩ := sl_part HS.out t m (by omega)
    rw [show ((t + m : Nat) : Int) = (t : Int) + (m : Int) by omega] at hsl
    have HI := Lib.hid hi'
    clear hi'
    have HC := Lib.hid HS.out.cap
    go_enter Try.func64, Try.ntmps64
    go_wp2_with fail
    refine (G.out _ ((Bel.refl _).alloc _)).mono ?_
    rintro r w1 ⟨rfl, hb1⟩
    have hbel : Bel w w1 := ((Bel.refl w).alloc _).trans hb1
    have B0 := (Blk.new w #[.int .i64 0, .int .i64 0] 29).bel hb1
    have d0 : w1.cell? ⟨w.heap.size, 0, none⟩ = some (.int .i64 0) := B0.cell 0 rfl
    have d1 : w1.cell? ⟨w.heap.size, 1, none⟩ = some (.int .i64 0) := B0.cell 1 rfl
    have d2 := B0.frozen 0
    have d3 := B0.frozen 1
    have hsz : w.heap.size < w1.heap.size := by have := Below.size hb1; simp at this; omega
    have k1 : w1.cell? ⟨p, 0, none⟩ = some (.int .i64 most) := (Kep.of_bel (S := fun _ => False) hbel).cell id HP.out
    have l1 : p < w1.heap.size := World.block_lt_of_cell? w1 ⟨p, 0, none⟩ k1
    clear hb1 B0
    go_wp2_with fail
    refine (clone A' m (c - t) _ _ (HI.out.bel (hbel.alloc _)) (by omega)).mono ?_
    rintro r w2 ⟨u, rfl, hu⟩
    have hu1 := hu.1
    have HYL := Lib.hid (show ((zs.drop t).take m).length = m by simp; omega)
    rw [HYL.out] at hu1
    obtain ⟨Au, cu, hv, _⟩ := sl_of_own hu1
    subst hv
    have hb3 := hu.2
    have D := (Blk.alloc (Blk.bel (Blk.new w #[.int .i64 0, .int .i64 0] 29) (Bel.refl _)) (.cells #[] 5))
    have g0 : w2.cell? ⟨w.heap.size, 0, none⟩ = some (.int .i64 0) := (Below.cell (p := ⟨w.heap.size, 0, none⟩) hb3 (by simp; omega)).trans ((Below.cell (p := ⟨w.heap.size, 0, none⟩) ((Bel.refl w1).alloc _) hsz).trans d0)
    have g1 : w2.cell? ⟨w.heap.size, 1, none⟩ = some (.int .i64 0) := (Below.cell (p := ⟨w.heap.size, 1, none⟩) hb3 (by simp; omega)).trans ((Below.cell (p := ⟨w.heap.size, 1, none⟩) ((Bel.refl w1).alloc _) hsz).trans d1)
    have g2 : w2.frozen? ⟨w.heap.size, 0, none⟩ = false := (Below.frozen (p := ⟨w.heap.size, 0, none⟩) hb3 (by simp; omega)).trans ((Below.frozen (p := ⟨w.heap.size, 0, none⟩) ((Bel.refl w1).alloc _) hsz).trans d2)
    have g3 : w2.frozen? ⟨w.heap.size, 1, none⟩ = false := (Below.frozen (p := ⟨w.heap.size, 1, none⟩) hb3 (by simp; omega)).trans ((Below.frozen (p := ⟨w.heap.size, 1, none⟩) ((Bel.refl w1).alloc _) hsz).trans d3)
    have HU := Lib.hid hu1
    clear hlen
    have hb4 : Bel w w2 := (hbel.alloc _).trans hb3
    have hge : Hid (∀ i, (Value.slice Au m cu).ownBlock = some i → w.heap.size < i) := fun i hi => by have := (hu1.lt i hi).1; simp at this; omega
    clear hu hu1 hb3 D d0 d1 d2 d3
    go_wp2
    refine bodyPost_ret (v := gotV (.slice Au m cu) ((t + m : Nat) : Int) 0 0) (by simp [results, Try.results64, go_sem, g0, g1]) rfl ⟨_, rfl, ?_, (hb4.set (Nat.le_refl _) _).set (Nat.le_refl _) _⟩
    have hne : (Value.slice Au m cu).ownBlock ≠ some w.heap.size := fun e => by have := hge.out _ e; omega
    rw [HYL.out]
    exact owns_set (owns_set (owns_mono HU.out (by simp; omega)) hne 0 _) hne 1 _
end Cd
end Go.Proofs.Ytejbhfcmhijfcaa
