/-
  What N of a reader answers in this program.
  Conditions: the reader is one that NewReader made of at most 10^6 bytes.
-/
import Derived.Test.YtpfdakkameifkaaGReader2
namespace Go.Proofs.Ytpfdakkameifkaa
open Go.RowKit Go.Shelf
set_option linter.unusedVariables false
namespace Cd

/-- What N tells: the number, the place behind it, or a fault. -/
def NWay (zs : List Int) (k : Nat) (least most x tl e bad : Int) : Prop :=
  ∃ x0 t0 e0 b0, Way zs k x0 t0 e0 b0 ∧ 0 ≤ x0 ∧ x0 ≤ 18446744073709551615 ∧ ((e0 ≠ 0 ∧ x = 0 ∧ tl = 0 ∧ e = e0 ∧ bad = b0) ∨ (e0 = 0 ∧ (x0 < least ∨ most < x0) ∧ x = 0 ∧ tl = 0 ∧ e = 3 ∧ bad = k) ∨ (e0 = 0 ∧ least ≤ x0 ∧ x0 ≤ most ∧ x = x0 ∧ tl = t0 ∧ e = 0 ∧ bad = 0))
abbrev gotI (x tl e bad : Int) : Value := .tuple #[.int .i64 x, .int .i64 tl, .agg #[.int .i64 e, .int .i64 bad]]

set_option maxRecDepth 100000 in
set_option maxHeartbeats 1000000 in
theorem n1 (A : Option Addr) (n c : Nat) (zs : List Int) (k : Nat) (least most x tl e bad : Int) (p q : Nat) (w : World) (hs : Sl w A n c zs) (hn : n ≤ 1000000) (hb : Bytes zs) (hw : NWay zs k least most x tl e bad)
    (hp : w.cell? ⟨p, 0, none⟩ = some (.int .i64 least)) (hq : w.cell? ⟨q, 0, none⟩ = some (.int .i64 most)) (hm : most ≤ 9223372036854775807) :
    Calls Try.prog 103 #[.slice A n c, .int .i64 (k : Int), .pointer (some ⟨p, 0, none⟩), .pointer (some ⟨q, 0, none⟩)] w fun r w' => r = .returned (gotI x tl e bad) ∧ Bel w w' := by
  obtain ⟨x0, t0, e0, b0, hw0, h0, h1, hcs⟩ := hw
  have G := Lib.hid (fun w' (hw : Bel w w') => get A n c zs k x0 t0 e0 b0 w' (hs.bel hw).ints (by omega) hb hs.cap hw0)
  have HP := Lib.hid hp
  have HQ := Lib.hid hq
  clear hs hb hw0 hp hq
  rcases hcs with ⟨he, rfl, rfl, rfl, rfl⟩ | ⟨rfl, hx, rfl, rfl, rfl, rfl⟩ | ⟨rfl, hx1, hx2, rfl, rfl, rfl, rfl⟩
  · have fe : (e != 0) = true := by rw [bne_iff_ne]; exact he
    clear he
    go_enter Try.func103, Try.ntmps103
    go_wp2_with fail
    refine (G.out _ ((Bel.refl _).alloc _)).mono ?_
    rintro r w1 ⟨rfl, hb1⟩
    have hbel : Bel w w1 := ((Bel.refl w).alloc _).trans hb1
    have B0 := (Blk.new w #[.int .i64 0, .int .i64 0] 54).bel hb1
    have d0 : w1.cell? ⟨w.heap.size, 0, none⟩ = some (.int .i64 0) := B0.cell 0 rfl
    have d1 : w1.cell? ⟨w.heap.size, 1, none⟩ = some (.int .i64 0) := B0.cell 1 rfl
    have d2 := B0.frozen 0
    have d3 := B0.frozen 1
    have hsz : w.heap.size < w1.heap.size := by have := Below.size hb1; simp at this; omega
    clear hb1 B0
    go_wp2_with fail
    go_region
    go_wp2
    refine bodyPost_ret (v := gotI 0 0 e bad) (by simp [results, Try.results103, go_sem, d0, d1, hsz]) rfl ⟨rfl, ?_⟩
    first
      | exact ((hbel.set (Nat.le_refl _) _).set (Nat.le_refl _) _).alloc _
      | exact (((hbel.set (Nat.le_refl _) _).set (Nat.le_refl _) _).alloc _).drew
  · have hcs : decide ((9223372036854775807 : Int) < x0) = true ∨ (x0 ≤ 9223372036854775807 ∧ decide (x0 < least) = true) ∨ (x0 ≤ 9223372036854775807 ∧ decide (x0 < least) = false ∧ decide (most < x0) = true) := by
      rcases Int.lt_or_le 9223372036854775807 x0 with h | h
      · exact .inl (decide_eq_true h)
      · rcases Int.lt_or_le x0 least with h' | h'
        · exact .inr (.inl ⟨h, decide_eq_true h'⟩)
        · exact .inr (.inr ⟨h, decide_eq_false (by omega), decide_eq_true (by omega)⟩)
    clear hx
    go_enter Try.func103, Try.ntmps103
    go_wp2_with fail
    refine (G.out _ ((Bel.refl _).alloc _)).mono ?_
    rintro r w1 ⟨rfl, hb1⟩
    have hbel : Bel w w1 := ((Bel.refl w).alloc _).trans hb1
    have B0 := (Blk.new w #[.int .i64 0, .int .i64 0] 54).bel hb1
    have d0 : w1.cell? ⟨w.heap.size, 0, none⟩ = some (.int .i64 0) := B0.cell 0 rfl
    have d1 : w1.cell? ⟨w.heap.size, 1, none⟩ = some (.int .i64 0) := B0.cell 1 rfl
    have d2 := B0.frozen 0
    have d3 := B0.frozen 1
    have hsz : w.heap.size < w1.heap.size := by have := Below.size hb1; simp at this; omega
    have k1 : w1.cell? ⟨p, 0, none⟩ = some (.int .i64 least) := (Kep.of_bel (S := fun _ => False) hbel).cell id HP.out
    have k2 : w1.cell? ⟨q, 0, none⟩ = some (.int .i64 most) := (Kep.of_bel (S := fun _ => False) hbel).cell id HQ.out
    have l1 : p < w1.heap.size := World.block_lt_of_cell? w1 ⟨p, 0, none⟩ k1
    have l2 : q < w1.heap.size := World.block_lt_of_cell? w1 ⟨q, 0, none⟩ k2
    clear hb1 B0
    rcases hcs with f1 | ⟨f0, f1⟩ | ⟨f0, f1, f2⟩
    all_goals
      go_wp2
      refine bodyPost_ret (v := gotI 0 0 3 k) (by simp [results, Try.results103, go_sem, d0, d1, hsz]) rfl ⟨rfl, ?_⟩
      first
        | exact ((hbel.set (Nat.le_refl _) _).set (Nat.le_refl _) _).alloc _
        | exact (((hbel.set (Nat.le_refl _) _).set (Nat.le_refl _) _).alloc _).drew
  · have f0 : x ≤ 9223372036854775807 := by omega
    have f1 : decide (x < least) = false := decide_eq_false (by omega)
    have f2 : decide (most < x) = false := decide_eq_false (by omega)
    clear hx1 hx2
    go_enter Try.func103, Try.ntmps103
    go_wp2_with fail
    refine (G.out _ ((Bel.refl _).alloc _)).mono ?_
    rintro r w1 ⟨rfl, hb1⟩
    have hbel : Bel w w1 := ((Bel.refl w).alloc _).trans hb1
    have B0 := (Blk.new w #[.int .i64 0, .int .i64 0] 54).bel hb1
    have d0 : w1.cell? ⟨w.heap.size, 0, none⟩ = some (.int .i64 0) := B0.cell 0 rfl
    have d1 : w1.cell? ⟨w.heap.size, 1, none⟩ = some (.int .i64 0) := B0.cell 1 rfl
    have d2 := B0.frozen 0
    have d3 := B0.frozen 1
    have hsz : w.heap.size < w1.heap.size := by have := Below.size hb1; simp at this; omega
    have k1 : w1.cell? ⟨p, 0, none⟩ = some (.int .i64 least) := (Kep.of_bel (S := fun _ => False) hbel).cell id HP.out
    have k2 : w1.cell? ⟨q, 0, none⟩ = some (.int .i64 most) := (Kep.of_bel (S := fun _ => False) hbel).cell id HQ.out
    have l1 : p < w1.heap.size := World.block_lt_of_cell? w1 ⟨p, 0, none⟩ k1
    have l2 : q < w1.heap.size := World.block_lt_of_cell? w1 ⟨q, 0, none⟩ k2
    clear hb1 B0
    go_wp2
    refine bodyPost_ret (v := gotI x tl 0 0) (by simp [results, Try.results103, go_sem, d0, d1, hsz]) rfl ⟨rfl, ?_⟩
    first
      | exact ((hbel.set (Nat.le_refl _) _).set (Nat.le_refl _) _).alloc _
      | exact (((hbel.set (Nat.le_refl _) _).set (Nat.le_refl _) _).alloc _).drew

set_option maxRecDepth 100000 in
set_option maxHeartbeats 1000000 in
theorem itemN_fault (b : Nat) (A : Option Addr) (n c : Nat) (zs : List Int) (k : Nat) (x : Addr) (fn : Value) (w : World) (h : RSt w b A n c zs k (some x)) :
    Calls Try.prog 102 #[.pointer (some ⟨b, 0, none⟩), fn] w fun e w' => e = .returned (.int .i64 0) ∧ w = w' := by
  have T := Lib.hid (trouble b A n c zs k _ w h)
  clear h
  go_enter Try.func102, Try.ntmps102
  go_wp2_with (go_at_call 105; refine (T.out).mono ?_; rintro e w' ⟨rfl, rfl⟩)
  go_ret
  exact ⟨rfl, rfl⟩

set_option maxRecDepth 100000 in
set_option maxHeartbeats 1000000 in
theorem itemN (b : Nat) (A : Option Addr) (n c : Nat) (zs : List Int) (k : Nat) (x tl e bad : Int) (k' : Nat) (f' : Option (Int × Int)) (w : World) (h : RSt w b A n c zs k none) (p q : Addr) (hG : ∀ w', Bel w w' → Calls Try.prog 103 #[.slice A n c, .int .i64 (k : Int), .pointer (some p), .pointer (some q)] w' fun r w1 => r = .returned (gotI x tl e bad) ∧ Bel w' w1) (hm : Moves k tl e bad k' f') (hk' : k' ≤ n) (hx : e ≠ 0 → x = 0) :
    Calls Try.prog 102 #[.pointer (some ⟨b, 0, none⟩), .func (.func 103) #[] #[.pointer (some p), .pointer (some q)]] w fun r w' => r = .returned (.int .i64 x) ∧ RS w' b zs k' f' ∧ Kep (fun i => i = b) w w' := by
  have T := Lib.hid (trouble b A n c zs k none w h)
  have H := Lib.hid h
  have G := Lib.hid (fun w' (hb : Bel w w') => (hG w' hb).mono (R' := fun r w1 => r = .returned (gotI x tl e bad) ∧ Bel w' w1 ∧ w1.cell? ⟨b, 1, none⟩ = some (.slice A n c) ∧ w1.cell? ⟨b, 2, none⟩ = some (.int .i64 (k : Int))) fun r w1 hr => ⟨hr.1, hr.2, (h.blk.bel (hb.trans hr.2)).cell 1 rfl, (h.blk.bel (hb.trans hr.2)).cell 2 rfl⟩)
  have c1 : w.cell? ⟨b, 1, none⟩ = some (.slice A n c) := h.blk.cell 1 rfl
  have c2 : w.cell? ⟨b, 2, none⟩ = some (.int .i64 (k : Int)) := h.blk.cell 2 rfl
  have n1 := World.new_ne w _ c1
  have D := Lib.hid (laid w 54)
  clear h hG
  go_enter Try.func102, Try.ntmps102
  go_upto_region 2 with (go_at_call 105; refine (T.out).mono ?_; rintro e w' ⟨rfl, rfl⟩)
  go_cut [5, 6, 7] (fun s5 s6 s7 wx => ∃ g : Nat, s5 = .int .i64 x ∧ s6 = .int .i64 tl ∧ s7 = .pointer (some ⟨g, 0, none⟩) ∧ w.heap.size ≤ g ∧ Blk wx g #[.int .i64 e, .int .i64 bad] 54 ∧ Bel w wx)
  case first =>
    go_region_held3 (fun w' => w'.cell? ⟨b, 1, none⟩ = some (.slice A n c) ∧ w'.cell? ⟨b, 2, none⟩ = some (.int .i64 (k : Int))) (go_keep)
      (first | (go_at_call 103; first | (refine (G.out _ ?_).mono ?_; exact ((Bel.refl _).alloc _).drew; rintro r w1 ⟨rfl, hb1, k1, k2⟩; obtain ⟨d0, d1, d2, d3, dB⟩ := D.out w1 hb1; have hb2 : Bel w w1 := (((Bel.refl _).alloc _).drew).trans hb1; have hbig := Below.size hb1; clear hb1) | (refine (G.out _ ?_).mono ?_; exact (Bel.refl _).drew; rintro r w1 ⟨rfl, hb1, k1, k2⟩; have hb2 : Bel w w1 := (Bel.refl _).drew.trans hb1; clear hb1)))
    all_goals (go_wp2_with fail; go_meet; first | exact ⟨w1.heap.size, rfl, rfl, rfl, Below.size hb2, Blk.new _ _ _, hb2.alloc _⟩ | exact ⟨w.heap.size, rfl, rfl, rfl, Nat.le_refl _, (dB.out.set 0 _).set 1 _, (hb2.set (Nat.le_refl _) _).set (Nat.le_refl _) _⟩)
  case rest =>
    obtain ⟨g, rfl, rfl, rfl, hg, hG, hbel⟩ := hcut
    have HG := Lib.hid hG
    have HB := Lib.hid hbel
    have HR := Lib.hid (H.out.bel hbel)
    have g0 : wc.cell? ⟨g, 0, none⟩ = some (.int .i64 e) := hG.cell 0 rfl
    have hbl := H.out.blk.lt
    have hne : g ≠ b := by omega
    clear hG hbel c1 c2 n1
    rcases hm with ⟨rfl, rfl, rfl⟩ | ⟨he, rfl, rfl⟩
    · have k2 : wc.cell? ⟨b, 2, none⟩ = some (.int .i64 (k : Int)) := HR.out.blk.cell 2 rfl
      have f2 := HR.out.blk.frozen 2
      go_wp2
      go_ret
      exact ⟨rfl, ⟨A, n, c, none, HR.out.move hk', .inl ⟨rfl, rfl⟩⟩, (Kep.of_bel HB.out).set_self _ _⟩
    · have k3 : wc.cell? ⟨b, 3, none⟩ = some (.pointer none) := HR.out.blk.cell 3 rfl
      have f3 := HR.out.blk.frozen 3
      have fe : (e != 0) = true := by rw [bne_iff_ne]; exact he
      have HE := Lib.hid he
      have HX := Lib.hid (hx he)
      clear he hx
      go_wp2
      go_ret
      exact ⟨by rw [HX.out]; rfl, ⟨A, n, c, _, HR.out.fault (some ⟨g, 0, none⟩), .inr ⟨e, bad, g, rfl, rfl, hne, HG.out.other hne 3 _, HE.out⟩⟩, (Kep.of_bel HB.out).set_self _ _⟩
end Cd
end Go.Proofs.Ytpfdakkameifkaa
