/-
  What N of the program's reader without a fault answers: the reader's bytes lie where they lay.
  Conditions: readers that were made of at most 10^6 bytes.
-/
import Derived.Test.YtpfdakkameifkaaGOneItems
namespace Go.Proofs.Ytpfdakkameifkaa
open Go.RowKit Go.Shelf
set_option linter.unusedVariables false
namespace Cd

set_option maxRecDepth 100000 in
set_option maxHeartbeats 1000000 in
theorem itemNx (b : Nat) (A : Option Addr) (n c : Nat) (zs : List Int) (k : Nat) (x tl e bad : Int) (k' : Nat) (f' : Option (Int × Int)) (w : World) (h : RSt w b A n c zs k none) (p q : Addr) (hG : ∀ w', Bel w w' → Calls Try.prog 103 #[.slice A n c, .int .i64 (k : Int), .pointer (some p), .pointer (some q)] w' fun r w1 => r = .returned (gotI x tl e bad) ∧ Bel w' w1) (hm : Moves k tl e bad k' f') (hk' : k' ≤ n) (hx : e ≠ 0 → x = 0) :
    Calls Try.prog 102 #[.pointer (some ⟨b, 0, none⟩), .func (.func 103) #[] #[.pointer (some p), .pointer (some q)]] w fun r w' => r = .returned (.int .i64 x) ∧ RX w' b A n c zs k' f' w.heap.size ∧ Kep (fun i => i = b) w w' := by
  have T := Lib.hid (trouble b A n c zs k none w h)
  have H := Lib.hid h
  have G := Lib.hid (fun w' (hb : Bel w w') => (hG w' hb).mono (R' := fun r w1 => r = .returned (gotI x tl e bad) ∧ Bel w' w1 ∧ w1.cell? ⟨b, 1, none⟩ = some (.slice A n c) ∧ w1.cell? ⟨b, 2, none⟩ = some (.int .i64 (k : Int))) fun r w1 hr => ⟨hr.1, hr.2, (h.blk.bel (hb.trans hr.2)).cell 1 rfl, (h.blk.bel (hb.trans hr.2)).cell 2 rfl⟩)
  have c1 : w.cell? ⟨b, 1, none⟩ = some (.slice A n c) := h.blk.cell 1 rfl
  have c2 : w.cell? ⟨b, 2, none⟩ = some (.int .i64 (k : Int)) := h.blk.cell 2 rfl
  have n1 := World.new_ne w _ c1
  have D := Lib.hid (laid w 54)
  clear h hG
  go_enter Try.func102, Try.ntmps102
  go_upto_region 2 with (go_at_call 105; refine (T.out).mono ?_; rintro e w' ⟨rfl, rfl⟩)
  go_cut [5, 6, 7] (fun s5 s6 s7 wx => ∃ g : Nat, s5 = .int .i64 x ∧ s6 = .int .i64 tl ∧ s7 = .pointer (some ⟨g, 0, none⟩) ∧ w.heap.size ≤ g ∧ Blk wx g #[.int .i64 e, .int .i64 bad] 54 ∧ Bel w wx)
  case first =>
    go_region_held3 (fun w' => w'.cell? ⟨b, 1, none⟩ = some (.slice A n c) ∧ w'.cell? ⟨b, 2, none⟩ = some (.int .i64 (k : Int))) (go_keep)
      (first | (go_at_call 103; first | (refine (G.out _ ?_).mono ?_; exact ((Bel.refl _).alloc _).drew; rintro r w1 ⟨rfl, hb1, k1, k2⟩; obtain ⟨d0, d1, d2, d3, dB⟩ := D.out w1 hb1; have hb2 : Bel w w1 := (((Bel.refl _).alloc _).drew).trans hb1; have hbig := Below.size hb1; clear hb1) | (refine (G.out _ ?_).mono ?_; exact (Bel.refl _).drew; rintro r w1 ⟨rfl, hb1, k1, k2⟩; have hb2 : Bel w w1 := (Bel.refl _).drew.trans hb1; clear hb1)))
    all_goals (go_wp2_with fail; go_meet; first | exact ⟨w1.heap.size, rfl, rfl, rfl, Below.size hb2, Blk.new _ _ _, hb2.alloc _⟩ | exact ⟨w.heap.size, rfl, rfl, rfl, Nat.le_refl _, (dB.out.set 0 _).set 1 _, (hb2.set (Nat.le_refl _) _).set (Nat.le_refl _) _⟩)
  case rest =>
    obtain ⟨g, rfl, rfl, rfl, hg, hG, hbel⟩ := hcut
    have HG := Lib.hid hG
    have HB := Lib.hid hbel
    have HR := Lib.hid (H.out.bel hbel)
    have g0 : wc.cell? ⟨g, 0, none⟩ = some (.int .i64 e) := hG.cell 0 rfl
    have hbl := H.out.blk.lt
    have hne : g ≠ b := by omega
    clear hG hbel c1 c2 n1
    rcases hm with ⟨rfl, rfl, rfl⟩ | ⟨he, rfl, rfl⟩
    · have k2 : wc.cell? ⟨b, 2, none⟩ = some (.int .i64 (k : Int)) := HR.out.blk.cell 2 rfl
      have f2 := HR.out.blk.frozen 2
      go_wp2
      go_ret
      exact ⟨rfl, ⟨none, HR.out.move hk', .inl ⟨rfl, rfl⟩, fun x hx => by cases hx⟩, (Kep.of_bel HB.out).set_self _ _⟩
    · have k3 : wc.cell? ⟨b, 3, none⟩ = some (.pointer none) := HR.out.blk.cell 3 rfl
      have f3 := HR.out.blk.frozen 3
      have fe : (e != 0) = true := by rw [bne_iff_ne]; exact he
      have HE := Lib.hid he
      have HX := Lib.hid (hx he)
      clear he hx
      go_wp2
      go_ret
      exact ⟨by rw [HX.out]; rfl, ⟨_, HR.out.fault (some ⟨g, 0, none⟩), .inr ⟨e, bad, g, rfl, rfl, hne, HG.out.other hne 3 _, HE.out⟩, fun x hx => by cases hx; exact hg⟩, (Kep.of_bel HB.out).set_self _ _⟩

set_option maxRecDepth 100000 in
theorem rNx (b : Nat) (A : Option Addr) (n c : Nat) (zs : List Int) (k : Nat) (least most x : Int) (k' : Nat) (f' : Option (Int × Int)) (w : World) (h : RSt w b A n c zs k none) (hr : RN zs k none least most x k' f') (hm : most ≤ 9223372036854775807) :
    Calls Try.prog 81 #[.pointer (some ⟨b, 0, none⟩), .int .i64 least, .int .i64 most] w fun e w' => e = .returned (.int .i64 x) ∧ RX w' b A n c zs k' f' w.heap.size ∧ Kep (fun i => i = b) w w' := by
  have b0 : Bel w ((w.alloc (.cells #[.int .i64 least] 3)).alloc (.cells #[.int .i64 most] 3)) := ((Bel.refl w).alloc _).alloc _
  have HB0 := Lib.hid b0
  have hs := h.bel b0
  have p1 : ((w.alloc (.cells #[.int .i64 least] 3)).alloc (.cells #[.int .i64 most] 3)).cell? ⟨w.heap.size, 0, none⟩ = some (.int .i64 least) := ((Blk.new w _ _).alloc _).cell 0 rfl
  have p2 : ((w.alloc (.cells #[.int .i64 least] 3)).alloc (.cells #[.int .i64 most] 3)).cell? ⟨w.heap.size + 1, 0, none⟩ = some (.int .i64 most) := by
    have := (Blk.new (w.alloc (.cells #[.int .i64 least] 3)) #[.int .i64 most] 3).cell 0 rfl
    rwa [World.size_alloc] at this
  have HP1 := Lib.hid p1
  have HP2 := Lib.hid p2
  rcases hr with ⟨p, h, _⟩ | ⟨_, tl, e, bad, hw, hmv, hk, hx⟩
  · cases h
  have IT := Lib.hid (itemNx b A n c zs k x tl e bad k' f' _ hs ⟨w.heap.size, 0, none⟩ ⟨w.heap.size + 1, 0, none⟩ (fun w' hb => n1 A n c zs k least most x tl e bad w.heap.size (w.heap.size + 1) w' (hs.sl.bel hb) hs.len hs.bytes hw (bel_cell hb HP1.out) (bel_cell hb HP2.out) hm) hmv (by rw [← hs.sl.len]; exact hk) hx)
  clear hs hw hmv hk hx p1 p2 b0 h hm
  go_enter Try.func81, Try.ntmps81
  go_wp2_with fail
  refine (IT.out).mono ?_
  rintro e w' ⟨rfl, ⟨F, h1, h1', h1''⟩, h2⟩
  have H1 : Hid (RX w' b A n c zs k' f' w.heap.size) := ⟨F, h1, h1', fun x hx => by have := h1'' x hx; simp at this; omega⟩
  have H2 := Lib.hid h2
  clear h1 h1' h1'' h2
  go_wp2
  go_ret
  exact ⟨rfl, H1.out, (Kep.of_bel HB0.out).trans H2.out⟩
end Cd
end Go.Proofs.Ytpfdakkameifkaa
