/-
  Texts of this claim, put together: ReadN0, ReadY, Rm. What each one says, and under which conditions, stands ahead of it.
-/
import Derived.Test.YtcefjigbaglmeaaGreatHA

section
/-
  What N of the program's reader without a fault answers: the reader's bytes lie where they lay.
  Conditions: readers that were made of at most 10^6 bytes.
-/
namespace Go.Proofs.YtcefjigbaglmeaaGreat
open Go.RowKit Go.Shelf
set_option linter.unusedVariables false
namespace Cd

set_option maxRecDepth 100000 in
set_option maxHeartbeats 1000000 in
theorem itemNx (b : Nat) (A : Option Addr) (n c : Nat) (zs : List Int) (k : Nat) (x tl e bad : Int) (k' : Nat) (f' : Option (Int × Int)) (w : World) (h : RSt w b A n c zs k none) (p q : Addr) (hG : ∀ w', Bel w w' → Calls Tryz.prog 87 #[.slice A n c, .int .i64 (k : Int), .pointer (some p), .pointer (some q)] w' fun r w1 => r = .returned (gotI x tl e bad) ∧ Bel w' w1) (hm : Moves k tl e bad k' f') (hk' : k' ≤ n) (hx : e ≠ 0 → x = 0) :
    Calls Tryz.prog 86 #[.pointer (some ⟨b, 0, none⟩), .func (.func 87) #[] #[.pointer (some p), .pointer (some q)]] w fun r w' => r = .returned (.int .i64 x) ∧ RX w' b A n c zs k' f' w.heap.size ∧ Kep (fun i => i = b) w w' := by
  have T := Lib.hid (trouble b A n c zs k none w h)
  have H := Lib.hid h
  have G := Lib.hid (fun w' (hb : Bel w w') => (hG w' hb).mono (R' := fun r w1 => r = .returned (gotI x tl e bad) ∧ Bel w' w1 ∧ w1.cell? ⟨b, 1, none⟩ = some (.slice A n c) ∧ w1.cell? ⟨b, 2, none⟩ = some (.int .i64 (k : Int))) fun r w1 hr => ⟨hr.1, hr.2, (h.blk.bel (hb.trans hr.2)).cell 1 rfl, (h.blk.bel (hb.trans hr.2)).cell 2 rfl⟩)
  have c1 : w.cell? ⟨b, 1, none⟩ = some (.slice A n c) := h.blk.cell 1 rfl
  have c2 : w.cell? ⟨b, 2, none⟩ = some (.int .i64 (k : Int)) := h.blk.cell 2 rfl
  have n1 := World.new_ne w _ c1
  have D := Lib.hid (laid w 32)
  clear h hG
  go_enter Tryz.func86, Tryz.ntmps86
  go_upto_region 2 with (go_at_call 69; refine (T.out).mono ?_; rintro e w' ⟨rfl, rfl⟩)
  go_cut [5, 6, 7] (fun s5 s6 s7 wx => ∃ g : Nat, s5 = .int .i64 x ∧ s6 = .int .i64 tl ∧ s7 = .pointer (some ⟨g, 0, none⟩) ∧ w.heap.size ≤ g ∧ Blk wx g #[.int .i64 e, .int .i64 bad] 32 ∧ Bel w wx)
  case first =>
    go_region_held3 (fun w' => w'.cell? ⟨b, 1, none⟩ = some (.slice A n c) ∧ w'.cell? ⟨b, 2, none⟩ = some (.int .i64 (k : Int))) (go_keep)
      (first | (go_at_call 87; first | (refine (G.out _ ?_).mono ?_; exact ((Bel.refl _).alloc _).drew; rintro r w1 ⟨rfl, hb1, k1, k2⟩; obtain ⟨d0, d1, d2, d3, dB⟩ := D.out w1 hb1; have hb2 : Bel w w1 := (((Bel.refl _).alloc _).drew).trans hb1; have hbig := Below.size hb1; clear hb1) | (refine (G.out _ ?_).mono ?_; exact (Bel.refl _).drew; rintro r w1 ⟨rfl, hb1, k1, k2⟩; have hb2 : Bel w w1 := (Bel.refl _).drew.trans hb1; clear hb1)))
    all_goals (go_wp2_with fail; go_meet; first | exact ⟨w1.heap.size, rfl, rfl, rfl, Below.size hb2, Blk.new _ _ _, hb2.alloc _⟩ | exact ⟨w.heap.size, rfl, rfl, rfl, Nat.le_refl _, (dB.out.set 0 _).set 1 _, (hb2.set (Nat.le_refl _) _).set (Nat.le_refl _) _⟩)
  case rest =>
    obtain ⟨g, rfl, rfl, rfl, hg, hG, hbel⟩ := hcut
    have HG := Lib.hid hG
    have HB := Lib.hid hbel
    have HR := Lib.hid (H.out.bel hbel)
    have g0 : wc.cell? ⟨g, 0, none⟩ = some (.int .i64 e) := hG.cell 0 rfl
    have hbl := H.out.blk.lt
    have hne : g ≠ b := by omega
    clear hG hbel c1 c2 n1
    rcases hm with ⟨rfl, rfl, rfl⟩ | ⟨he, rfl, rfl⟩
    · have k2 : wc.cell? ⟨b, 2, none⟩ = some (.int .i64 (k : Int)) := HR.out.blk.cell 2 rfl
      have f2 := HR.out.blk.frozen 2
      go_wp2
      go_ret
      exact ⟨rfl, ⟨none, HR.out.move hk', .inl ⟨rfl, rfl⟩, fun x hx => by cases hx⟩, (Kep.of_bel HB.out).set_self _ _⟩
    · have k3 : wc.cell? ⟨b, 3, none⟩ = some (.pointer none) := HR.out.blk.cell 3 rfl
      have f3 := HR.out.blk.frozen 3
      have fe : (e != 0) = true := by rw [bne_iff_ne]; exact he
      have HE := Lib.hid he
      have HX := Lib.hid (hx he)
      clear he hx
      go_wp2
      go_ret
      exact ⟨by rw [HX.out]; rfl, ⟨_, HR.out.fault (some ⟨g, 0, none⟩), .inr ⟨e, bad, g, rfl, rfl, hne, HG.out.other hne 3 _, HE.out⟩, fun x hx => by cases hx; exact hg⟩, (Kep.of_bel HB.out).set_self _ _⟩

set_option maxRecDepth 100000 in
theorem rNx (b : Nat) (A : Option Addr) (n c : Nat) (zs : List Int) (k : Nat) (least most x : Int) (k' : Nat) (f' : Option (Int × Int)) (w : World) (h : RSt w b A n c zs k none) (hr : RN zs k none least most x k' f') (hm : most ≤ 9223372036854775807) :
    Calls Tryz.prog 64 #[.pointer (some ⟨b, 0, none⟩), .int .i64 least, .int .i64 most] w fun e w' => e = .returned (.int .i64 x) ∧ RX w' b A n c zs k' f' w.heap.size ∧ Kep (fun i => i = b) w w' := by
  have b0 : Bel w ((w.alloc (.cells #[.int .i64 least] 3)).alloc (.cells #[.int .i64 most] 3)) := ((Bel.refl w).alloc _).alloc _
  have HB0 := Lib.hid b0
  have hs := h.bel b0
  have p1 : ((w.alloc (.cells #[.int .i64 least] 3)).alloc (.cells #[.int .i64 most] 3)).cell? ⟨w.heap.size, 0, none⟩ = some (.int .i64 least) := ((Blk.new w _ _).alloc _).cell 0 rfl
  have p2 : ((w.alloc (.cells #[.int .i64 least] 3)).alloc (.cells #[.int .i64 most] 3)).cell? ⟨w.heap.size + 1, 0, none⟩ = some (.int .i64 most) := by
    have := (Blk.new (w.alloc (.cells #[.int .i64 least] 3)) #[.int .i64 most] 3).cell 0 rfl
    rwa [World.size_alloc] at this
  have HP1 := Lib.hid p1
  have HP2 := Lib.hid p2
  rcases hr with ⟨p, h, _⟩ | ⟨_, tl, e, bad, hw, hmv, hk, hx⟩
  · cases h
  have IT := Lib.hid (itemNx b A n c zs k x tl e bad k' f' _ hs ⟨w.heap.size, 0, none⟩ ⟨w.heap.size + 1, 0, none⟩ (fun w' hb => n1 A n c zs k least most x tl e bad w.heap.size (w.heap.size + 1) w' (hs.sl.bel hb) hs.len hs.bytes hw (bel_cell hb HP1.out) (bel_cell hb HP2.out) hm) hmv (by rw [← hs.sl.len]; exact hk) hx)
  clear hs hw hmv hk hx p1 p2 b0 h hm
  go_enter Tryz.func64, Tryz.ntmps64
  go_wp2_with fail
  refine (IT.out).mono ?_
  rintro e w' ⟨rfl, ⟨F, h1, h1', h1''⟩, h2⟩
  have H1 : Hid (RX w' b A n c zs k' f' w.heap.size) := ⟨F, h1, h1', fun x hx => by have := h1'' x hx; simp at this; omega⟩
  have H2 := Lib.hid h2
  clear h1 h1' h1'' h2
  go_wp2
  go_ret
  exact ⟨rfl, H1.out, (Kep.of_bel HB0.out).trans H2.out⟩
end Cd
end Go.Proofs.YtcefjigbaglmeaaGreat
end

section
/-
  What a reader answers while another object, at block d, stands beside it: its own memory stays apart from that block.
  Conditions: readers that were made of at most 10^6 bytes.
-/
namespace Go.Proofs.YtcefjigbaglmeaaGreat
open Go.RowKit Go.Shelf
set_option linter.unusedVariables false
namespace Cd

/-- A reader whose bytes lie at a known place, and whose fault does not lie in block d. -/
def RD (d : Nat) (w : World) (b : Nat) (A : Option Addr) (n c : Nat) (zs : List Int) (k : Nat) (f : Option (Int × Int)) : Prop :=
  ∃ F, RSt w b A n c zs k F ∧ Flt w b F f ∧ ∀ x : Addr, F = some x → x.block ≠ d
theorem RD.rs {d : Nat} {w : World} {b : Nat} {A : Option Addr} {n c : Nat} {zs : List Int} {k : Nat} {f : Option (Int × Int)} (h : RD d w b A n c zs k f) : RS w b zs k f := by
  obtain ⟨F, h1, h2, _⟩ := h
  exact ⟨A, n, c, F, h1, h2⟩
theorem RD.rst {d : Nat} {w : World} {b : Nat} {A : Option Addr} {n c : Nat} {zs : List Int} {k : Nat} (h : RD d w b A n c zs k none) : RSt w b A n c zs k none := by
  obtain ⟨F, h1, ⟨_, rfl⟩ | ⟨_, _, _, h2, _⟩, _⟩ := h
  · exact h1
  · cases h2
theorem RX.rd {w : World} {b : Nat} {A : Option Addr} {n c : Nat} {zs : List Int} {k : Nat} {f : Option (Int × Int)} {base : Nat} (h : RX w b A n c zs k f base) {d : Nat} (hd : d < base) : RD d w b A n c zs k f := by
  obtain ⟨F, h1, h2, h3⟩ := h
  exact ⟨F, h1, h2, fun x hx => by have := h3 x hx; omega⟩
theorem RD.bel {d : Nat} {w w' : World} {b : Nat} {A : Option Addr} {n c : Nat} {zs : List Int} {k : Nat} {f : Option (Int × Int)} (h : RD d w b A n c zs k f) (hk : Bel w w') : RD d w' b A n c zs k f := by
  obtain ⟨F, h1, h2, h3⟩ := h
  exact ⟨F, h1.bel hk, h2.bel hk, h3⟩
/-- The other object moves. -/
theorem RD.kep {d : Nat} {w w' : World} {b : Nat} {A : Option Addr} {n c : Nat} {zs : List Int} {k : Nat} {f : Option (Int × Int)} (h : RD d w b A n c zs k f) (hk : Kep (fun i => i = d) w w') (hbd : b ≠ d) (hA : 0 < n → ∀ x : Addr, A = some x → x.block ≠ d) : RD d w' b A n c zs k f := by
  obtain ⟨F, h1, h2, h3⟩ := h
  exact ⟨F, h1.kep0 hk hbd hA, h2.kep hk h3, h3⟩
theorem RD.fault {d : Nat} {w : World} {b : Nat} {A : Option Addr} {n c : Nat} {zs : List Int} {k : Nat} {p : Int × Int} (h : RD d w b A n c zs k (some p)) : ∃ x, RSt w b A n c zs k (some x) := by
  obtain ⟨F, h1, ⟨h2, _⟩ | ⟨_, _, fb, _, rfl, _⟩, _⟩ := h
  · cases h2
  · exact ⟨_, h1⟩

set_option maxRecDepth 100000 in
theorem uF (b : Nat) (A : Option Addr) (n c : Nat) (zs : List Int) (k : Nat) (x : Addr) (w : World) (h : RSt w b A n c zs k (some x)) :
    Calls Tryz.prog 90 #[.pointer (some ⟨b, 0, none⟩)] w fun e w' => e = .returned (.int .u64 0) ∧ Bel w w' := by
  have IT := Lib.hid (itemU_fault b A n c zs k x (.func (.func 88) #[] #[]) w h)
  clear h
  go_enter Tryz.func90, Tryz.ntmps90
  go_wp2_with fail
  refine (IT.out).mono ?_
  rintro e w' ⟨rfl, rfl⟩
  go_wp2
  go_ret
  exact ⟨rfl, Bel.refl _⟩
set_option maxRecDepth 100000 in
theorem nF (b : Nat) (A : Option Addr) (n c : Nat) (zs : List Int) (k : Nat) (x : Addr) (least most : Int) (w : World) (h : RSt w b A n c zs k (some x)) :
    Calls Tryz.prog 64 #[.pointer (some ⟨b, 0, none⟩), .int .i64 least, .int .i64 most] w fun e w' => e = .returned (.int .i64 0) ∧ Bel w w' := by
  have IT := Lib.hid (fun fn w' (hb : Bel w w') => itemN_fault b A n c zs k x fn w' (h.bel hb))
  clear h
  go_enter Tryz.func64, Tryz.ntmps64
  go_wp2_with fail
  refine (IT.out _ _ (((Bel.refl _).alloc _).alloc _)).mono ?_
  rintro e w' ⟨rfl, rfl⟩
  go_wp2
  go_ret
  exact ⟨rfl, ((Bel.refl _).alloc _).alloc _⟩
theorem yU (d b : Nat) (A : Option Addr) (n c : Nat) (zs : List Int) (k : Nat) (f : Option (Int × Int)) (x : Int) (k' : Nat) (f' : Option (Int × Int)) (w : World) (h : RD d w b A n c zs k f) (hr : RU zs k f x k' f') (hd : d < w.heap.size) :
    Calls Tryz.prog 90 #[.pointer (some ⟨b, 0, none⟩)] w fun e w' => e = .returned (.int .u64 x) ∧ RD d w' b A n c zs k' f' ∧ Kep (fun i => i = b) w w' := by
  rcases id hr with ⟨p, rfl, rfl, rfl, rfl⟩ | ⟨rfl, _⟩
  · obtain ⟨x, hx⟩ := h.fault
    exact (uF b A n c zs k' x w hx).mono fun e w' he => ⟨he.1, h.bel he.2, Kep.of_bel he.2⟩
  · exact (rUx b A n c zs k x k' f' w h.rst hr).mono fun e w' he => ⟨he.1, he.2.1.rd hd, he.2.2⟩
theorem yN (d b : Nat) (A : Option Addr) (n c : Nat) (zs : List Int) (k : Nat) (f : Option (Int × Int)) (least most x : Int) (k' : Nat) (f' : Option (Int × Int)) (w : World) (h : RD d w b A n c zs k f) (hr : RN zs k f least most x k' f') (hm : most ≤ 9223372036854775807) (hd : d < w.heap.size) :
    Calls Tryz.prog 64 #[.pointer (some ⟨b, 0, none⟩), .int .i64 least, .int .i64 most] w fun e w' => e = .returned (.int .i64 x) ∧ RD d w' b A n c zs k' f' ∧ Kep (fun i => i = b) w w' := by
  rcases id hr with ⟨p, rfl, rfl, rfl, rfl⟩ | ⟨rfl, _⟩
  · obtain ⟨x, hx⟩ := h.fault
    exact (nF b A n c zs k' x least most w hx).mono fun e w' he => ⟨he.1, h.bel he.2, Kep.of_bel he.2⟩
  · exact (rNx b A n c zs k least most x k' f' w h.rst hr hm).mono fun e w' he => ⟨he.1, he.2.1.rd hd, he.2.2⟩
set_option maxRecDepth 100000 in
theorem yFail (d b : Nat) (A : Option Addr) (n c : Nat) (zs : List Int) (k : Nat) (f : Option (Int × Int)) (e p : Int) (w : World) (h : RD d w b A n c zs k f) (hd : d < w.heap.size) :
    Calls Tryz.prog 67 #[.pointer (some ⟨b, 0, none⟩), .int .i64 e, .int .i64 p] w fun r w' => r = .returned (.tuple #[]) ∧ RD d w' b A n c zs k (failOf f e p) ∧ Kep (fun i => i = b) w w' := by
  obtain ⟨F, hs, hf, hFd⟩ := h
  have T := Lib.hid (trouble b A n c zs k F w hs)
  have HS := Lib.hid hs
  have HF := Lib.hid hf
  have hbl := hs.blk.lt
  by_cases he : e = 0
  · have E := Lib.hid (show failOf f e p = f from if_pos he)
    have fe : (e != 0) = false := by rw [he]; rfl
    clear hs hf he
    go_enter Tryz.func67, Tryz.ntmps67
    go_wp2
    go_end0
    rw [E.out]
    exact ⟨rfl, ⟨F, HS.out, HF.out, hFd⟩, Kep.refl _ _⟩
  · have fe : (e != 0) = true := by rw [bne_iff_ne]; exact he
    have HE := Lib.hid he
    rcases hf with ⟨rfl, rfl⟩ | ⟨e', q, fb, rfl, rfl, h3, h4, h5⟩
    · have E := Lib.hid (show failOf none e p = some (e, p) from if_neg he)
      have k3 : w.cell? ⟨b, 3, none⟩ = some (.pointer none) := hs.blk.cell 3 rfl
      have k3' : (w.alloc (.cells #[.int .i64 e, .int .i64 p] 32)).cell? ⟨b, 3, none⟩ = some (.pointer none) := (hs.blk.alloc _).cell 3 rfl
      have f3 := hs.blk.frozen 3
      have f3' := (hs.blk.alloc (.cells #[.int .i64 e, .int .i64 p] 32)).frozen 3
      clear hs he
      go_enter Tryz.func67, Tryz.ntmps67
      go_wp2_with (go_at_call 69; refine (T.out).mono ?_; rintro r w' ⟨rfl, rfl⟩)
      go_end0
      rw [E.out]
      have hbk := Blk.new (w.setCell ⟨b, 3, none⟩ (.pointer (some ⟨w.heap.size, 0, none⟩))) #[.int .i64 e, .int .i64 p] 32
      have hsz : (w.setCell ⟨b, 3, none⟩ (.pointer (some ⟨w.heap.size, 0, none⟩))).heap.size = w.heap.size := by simp
      rw [hsz] at hbk
      exact ⟨rfl, ⟨_, (HS.out.fault (some ⟨w.heap.size, 0, none⟩)).bel ((Bel.refl _).alloc _), .inr ⟨e, p, w.heap.size, rfl, rfl, by omega, hbk, HE.out⟩, fun x hx => by cases hx; exact Nat.ne_of_gt hd⟩, ((Kep.refl _ _).set_self 3 _).alloc _⟩
    · have E := Lib.hid (show failOf (some (e', q)) e p = some (e', q) from if_neg he)
      clear hs he
      go_enter Tryz.func67, Tryz.ntmps67
      go_wp2_with (go_at_call 69; refine (T.out).mono ?_; rintro r w' ⟨rfl, rfl⟩)
      go_end0
      rw [E.out]
      exact ⟨rfl, ⟨_, HS.out, HF.out, hFd⟩, Kep.refl _ _⟩
end Cd
end Go.Proofs.YtcefjigbaglmeaaGreat
end

section
/-
  The mathematics of reading numbers within bounds: some are read of any bytes; their own bytes are read as they. No program, no condition.
-/
namespace Go.Proofs.YtcefjigbaglmeaaGreat
open Go.RowKit Go.Shelf
set_option linter.unusedVariables false
namespace Rm
open Cd
theorem val_one (zs : List Int) (k : Nat) {z : Int} (hz : zs.getD k 0 = z) (h0 : 0 ≤ z) (h1 : z < 128) : val zs k (0 + 1) = z := by
  have h : val zs k (0 + 1) = zs.getD k 0 % 128 + 128 * val zs (k + 1) 0 := val_front zs k 0
  have h2 : val zs (k + 1) 0 = 0 := rfl
  rw [h, h2, hz]
  omega
/-- N reads some number of any bytes. -/
theorem rn_of (zs : List Int) (hb : Bytes zs) (k : Nat) (hk : k ≤ zs.length) (least most : Int) : ∃ x k' f', RN zs k none least most x k' f' ∧ k' ≤ zs.length ∧ ((f' = none ∧ least ≤ x ∧ x ≤ most ∧ zs.take k ++ enc x = zs.take k') ∨ (∃ e, e ≠ 0 ∧ f' = some (e, (k : Int)) ∧ k' = k ∧ x = 0)) := by
  obtain ⟨x, k', f', hr, h0, h1, ho⟩ := ru_of zs hb k hk
  rcases hr with ⟨p, h, _⟩ | ⟨_, tl, e, bad, hw, hm, hle, hx⟩
  · cases h
  rcases hm with ⟨rfl, hk', rfl⟩ | ⟨he, rfl, rfl⟩
  · rcases ho with ⟨_, h2, h3⟩ | ⟨_, _, h2, _⟩
    · by_cases hb1 : least ≤ x ∧ x ≤ most
      · exact ⟨x, k', none, .inr ⟨rfl, tl, 0, 0, ⟨x, tl, 0, bad, hw, h0, h1, .inr (.inr ⟨rfl, hb1.1, hb1.2, rfl, rfl, rfl, rfl⟩)⟩, .inl ⟨rfl, hk', rfl⟩, hle, fun h => absurd rfl h⟩, hle, .inl ⟨rfl, hb1.1, hb1.2, h3⟩⟩
      · refine ⟨0, k, some (3, (k : Int)), .inr ⟨rfl, 0, 3, (k : Int), ⟨x, tl, 0, bad, hw, h0, h1, .inr (.inl ⟨rfl, by omega, rfl, rfl, rfl, rfl⟩)⟩, .inr ⟨by decide, rfl, rfl⟩, hk, fun _ => rfl⟩, hk, .inr ⟨3, by decide, rfl, rfl, rfl⟩⟩
    · cases h2
  · have hx0 : x = 0 := hx he
    subst hx0
    rcases ho with ⟨h2, _⟩ | ⟨e', he', h2, _⟩
    · cases h2
    · injection h2 with h2
      injection h2 with h2 h3
      subst h2
      subst h3
      exact ⟨0, k', some (e, (k' : Int)), .inr ⟨rfl, 0, e, (k' : Int), ⟨0, tl, e, (k' : Int), hw, by decide, by decide, .inl ⟨he, rfl, rfl, rfl, rfl⟩⟩, .inr ⟨he, rfl, rfl⟩, hk, fun _ => rfl⟩, hk, .inr ⟨e, he, rfl, rfl, rfl⟩⟩
/-- How a number's bytes look, wherever they stand. -/
theorem encN_shape (f : Nat) : ∀ n, 0 ≤ n → n < top f → ∃ j, j ≤ f ∧ (encN f n).length = j + 1 ∧ (∀ i, i < j → 128 ≤ (encN f n).getD i 0) ∧ (encN f n).getD j 0 < 128 ∧ (0 < j → 0 < (encN f n).getD j 0) ∧ (j = f → (encN f n).getD j 0 < 2 ∨ f = 0) ∧ (f = 0 → (encN f n).getD j 0 < 2) ∧
    ∀ (zs : List Int) (k : Nat), (∀ i, i ≤ j → zs.getD (k + i) 0 = (encN f n).getD i 0) → val zs k (j + 1) = n := by
  induction f with
  | zero =>
    intro n h0 h1
    have ht : top 0 = 2 := rfl
    refine ⟨0, Nat.le_refl _, rfl, fun i hi => absurd hi (by omega), ?_, fun h => absurd h (by omega), fun _ => .inr rfl, fun _ => ?_, fun zs k h => ?_⟩
    · show n < 128; omega
    · show n < 2; omega
    · exact val_one zs k (h 0 (Nat.le_refl _)) h0 (by omega)
  | succ f ih =>
    intro n h0 h1
    have ht : top (f + 1) = 128 * top f := rfl
    rcases Int.lt_or_le n 128 with h | h
    · rw [encN_small _ h]
      refine ⟨0, Nat.zero_le _, rfl, fun i hi => absurd hi (by omega), h, fun h => absurd h (by omega), fun h => absurd h (by omega), fun h => absurd h (by omega), fun zs k hz => ?_⟩
      exact val_one zs k (hz 0 (Nat.le_refl _)) h0 h
    · rw [encN_great _ h]
      obtain ⟨j, h2, h3, h4, h5, h6, h7, h8, h9⟩ := ih (n / 128) (by omega) (by omega)
      have hd : ∀ i, ((n % 128 + 128) :: encN f (n / 128)).getD (i + 1) 0 = (encN f (n / 128)).getD i 0 := fun i => by simp
      refine ⟨j + 1, by omega, by rw [List.length_cons, h3], fun i hi => ?_, by rw [hd]; exact h5, fun _ => ?_, fun hj => .inl ?_, fun h => absurd h (by omega), fun zs k hz => ?_⟩
      · match i, hi with
        | 0, _ => show (128 : Int) ≤ n % 128 + 128; omega
        | i + 1, hi => rw [hd]; exact h4 i (by omega)
      · rw [hd]
        rcases Nat.eq_zero_or_pos j with rfl | hp
        · have hl : encN f (n / 128) = [n / 128] := by
            rcases Int.lt_or_le (n / 128) 128 with h' | h'
            · exact encN_small _ h'
            · exfalso
              cases f with
              | zero => have : top 0 = 2 := rfl; omega
              | succ f =>
                rw [encN_great _ h', List.length_cons] at h3
                have := (encN_len f (n / 128 / 128)).1
                omega
          rw [hl]
          show 0 < n / 128
          omega
        · exact h6 hp
      · rw [hd]
        rcases h7 (by omega) with h | h
        · exact h
        · exact h8 h
      · have hz0 : zs.getD k 0 = n % 128 + 128 := hz 0 (Nat.zero_le _)
        rw [val_front, hz0, h9 zs (k + 1) (fun i hi => by
          have := hz (i + 1) (by omega)
          rw [hd] at this
          rw [← this, Nat.add_assoc, Nat.add_comm 1 i])]
        show (n % 128 + 128) % 128 + 128 * (n / 128) = n
        omega
/-- A number's bytes are read as it. -/
theorem way_enc (pre post : List Int) (x : Int) (h0 : 0 ≤ x) (h1 : x ≤ 18446744073709551615) : Cd.Way (pre ++ enc x ++ post) pre.length x ((pre.length + (enc x).length : Nat) : Int) 0 0 := by
  obtain ⟨j, a1, a2, a3, a4, a5, a6, a7, a8⟩ := encN_shape 9 x h0 (by rw [top9]; omega)
  have hg : ∀ i, i ≤ j → (pre ++ enc x ++ post).getD (pre.length + i) 0 = (encN 9 x).getD i 0 := fun i hi => by
    have hl : i < (enc x).length := by show i < (encN 9 x).length; omega
    rw [List.getD_eq_getElem?_getD, List.getD_eq_getElem?_getD, List.append_assoc, List.getElem?_append_right (by omega), Nat.add_sub_cancel_left, List.getElem?_append_left hl]
    rfl
  have hlen : (enc x).length = j + 1 := a2
  refine .inr (.inr ⟨pre.length, j, rfl, by omega, by simp; omega, fun i hi => by rw [hg i (by omega)]; exact a3 i hi, by rw [hg j (Nat.le_refl _)]; exact a4, fun h => by rw [hg j (Nat.le_refl _)]; exact a5 h, fun h => ?_, (a8 _ _ hg).symm, by rw [hlen]; push_cast; omega, rfl, rfl⟩)
  rw [hg j (Nat.le_refl _)]
  have := a5 (by omega)
  rcases a6 (by omega) with h | h
  · omega
  · omega
theorem rn_enc (pre post : List Int) (x least most : Int) (h0 : 0 ≤ x) (h1 : x ≤ 18446744073709551615) (hl : least ≤ x) (hm : x ≤ most) : RN (pre ++ enc x ++ post) pre.length none least most x (pre.length + (enc x).length) none :=
  .inr ⟨rfl, _, 0, 0, ⟨x, _, 0, 0, way_enc pre post x h0 h1, h0, h1, .inr (.inr ⟨rfl, hl, hm, rfl, rfl, rfl, rfl⟩)⟩, .inl ⟨rfl, rfl, rfl⟩, by simp, fun h => absurd rfl h⟩
theorem ru_enc (pre post : List Int) (x : Int) (h0 : 0 ≤ x) (h1 : x ≤ 18446744073709551615) : RU (pre ++ enc x ++ post) pre.length none x (pre.length + (enc x).length) none :=
  .inr ⟨rfl, _, 0, 0, way_enc pre post x h0 h1, .inl ⟨rfl, rfl, rfl⟩, by simp, fun h => absurd rfl h⟩

/-- Numbers, one behind the other. -/
def encs (l : List Int) : List Int := (l.map enc).flatten
theorem encs_cons (x : Int) (l : List Int) : encs (x :: l) = enc x ++ encs l := by simp [encs]
theorem encs_app (a b : List Int) : encs (a ++ b) = encs a ++ encs b := by simp [encs]
theorem encs_len (l : List Int) : (encs l).length ≤ 10 * l.length := by
  induction l with
  | nil => exact Nat.le_refl _
  | cons x r ih =>
    have := (enc_len x).2
    rw [encs_cons, List.length_append, List.length_cons]
    omega

/-- N reads some number of any bytes. -/
theorem rn_any (zs : List Int) (hb : Bytes zs) (k : Nat) (hk : k ≤ zs.length) (f : Option (Int × Int)) (least most : Int) : ∃ x k' f', RN zs k f least most x k' f' ∧ k' ≤ zs.length ∧ (x = 0 ∨ least ≤ x ∧ x ≤ most) := by
  cases f with
  | some p => exact ⟨0, k, some p, .inl ⟨p, rfl, rfl, rfl, rfl⟩, hk, .inl rfl⟩
  | none =>
    obtain ⟨x, k', f', hr, h0, h1, ho⟩ := ru_of zs hb k hk
    rcases hr with ⟨p, h, _⟩ | ⟨_, tl, e, bad, hw, hm, hle, hx⟩
    · cases h
    rcases hm with ⟨rfl, hk', rfl⟩ | ⟨he, rfl, rfl⟩
    · rcases ho with ⟨_, h2, h3⟩ | ⟨_, _, h2, _⟩
      · by_cases hb1 : least ≤ x ∧ x ≤ most
        · exact ⟨x, k', none, .inr ⟨rfl, tl, 0, 0, ⟨x, tl, 0, bad, hw, h0, h1, .inr (.inr ⟨rfl, hb1.1, hb1.2, rfl, rfl, rfl, rfl⟩)⟩, .inl ⟨rfl, hk', rfl⟩, hle, fun h => absurd rfl h⟩, hle, .inr hb1⟩
        · exact ⟨0, k, some (3, (k : Int)), .inr ⟨rfl, 0, 3, (k : Int), ⟨x, tl, 0, bad, hw, h0, h1, .inr (.inl ⟨rfl, by omega, rfl, rfl, rfl, rfl⟩)⟩, .inr ⟨by decide, rfl, rfl⟩, hk, fun _ => rfl⟩, hk, .inl rfl⟩
      · cases h2
    · have hx0 : x = 0 := hx he
      subst hx0
      rcases ho with ⟨h2, _⟩ | ⟨e', he', h2, _⟩
      · cases h2
      · injection h2 with h2
        injection h2 with h2 h3
        subst h2
        subst h3
        exact ⟨0, k', some (e, (k' : Int)), .inr ⟨rfl, 0, e, (k' : Int), ⟨0, tl, e, (k' : Int), hw, by decide, by decide, .inl ⟨he, rfl, rfl, rfl, rfl⟩⟩, .inr ⟨he, rfl, rfl⟩, hk, fun _ => rfl⟩, hk, .inl rfl⟩


end Rm
end Go.Proofs.YtcefjigbaglmeaaGreat
end
