/-
  What U, Hash and Blob of a reader without a fault answer in this program: the reader's bytes lie where they lay.
  Conditions: the reader is one that NewReader made of at most 10^6 bytes.
-/
import Derived.Test.YtejbhfcmhijfcaaOneKit
namespace Go.Proofs.Ytejbhfcmhijfcaa
open Go.RowKit Go.Shelf
set_option linter.unusedVariables false
namespace Cd

/-- A reader whose bytes lie at a known place, and whose fault is new. -/
def RX (w : World) (b : Nat) (A : Option Addr) (n c : Nat) (zs : List Int) (k : Nat) (f : Option (Int × Int)) (base : Nat) : Prop :=
  ∃ F, RSt w b A n c zs k F ∧ Flt w b F f ∧ ∀ x : Addr, F = some x → base ≤ x.block
theorem RX.rs {w : World} {b : Nat} {A : Option Addr} {n c : Nat} {zs : List Int} {k : Nat} {f : Option (Int × Int)} {base : Nat} (h : RX w b A n c zs k f base) : RS w b zs k f := by
  obtain ⟨F, h1, h2, _⟩ := h
  exact ⟨A, n, c, F, h1, h2⟩
theorem RX.rst {w : World} {b : Nat} {A : Option Addr} {n c : Nat} {zs : List Int} {k : Nat} {base : Nat} (h : RX w b A n c zs k none base) : RSt w b A n c zs k none := by
  obtain ⟨F, h1, ⟨_, rfl⟩ | ⟨_, _, _, h2, _⟩, _⟩ := h
  · exact h1
  · cases h2

set_option maxRecDepth 100000 in
set_option maxHeartbeats 1000000 in
theorem itemUx (b : Nat) (A : Option Addr) (n c : Nat) (zs : List Int) (k : Nat) (x tl e bad : Int) (k' : Nat) (f' : Option (Int × Int)) (w : World) (h : RSt w b A n c zs k none) (hw : Way zs k x tl e bad) (hm : Moves k tl e bad k' f') (hk' : k' ≤ n) (hx : e ≠ 0 → x = 0) :
    Calls Try.prog 58 #[.pointer (some ⟨b, 0, none⟩), .func (.func 12) #[] #[]] w fun r w' => r = .returned (.int .u64 x) ∧ RX w' b A n c zs k' f' w.heap.size ∧ Kep (fun i => i = b) w w' := by
  have T := Lib.hid (trouble b A n c zs k none w h)
  have H := Lib.hid h
  have G := Lib.hid (fun w' (hb : Bel w w') => (get A n c zs k x tl e bad w' (h.sl.bel hb).ints (by have := h.len; omega) h.bytes h.sl.cap hw).mono (R' := fun r w1 => r = .returned (got x tl e bad) ∧ Bel w' w1 ∧ w1.cell? ⟨b, 1, none⟩ = some (.slice A n c) ∧ w1.cell? ⟨b, 2, none⟩ = some (.int .i64 (k : Int))) fun r w1 hr => ⟨hr.1, hr.2, (h.blk.bel (hb.trans hr.2)).cell 1 rfl, (h.blk.bel (hb.trans hr.2)).cell 2 rfl⟩)
  have c1 : w.cell? ⟨b, 1, none⟩ = some (.slice A n c) := h.blk.cell 1 rfl
  have c2 : w.cell? ⟨b, 2, none⟩ = some (.int .i64 (k : Int)) := h.blk.cell 2 rfl
  have n1 := World.new_ne w _ c1
  have D := Lib.hid (laid w 29)
  clear h hw
  go_enter Try.func58, Try.ntmps58
  go_upto_region 2 with (go_at_call 54; refine (T.out).mono ?_; rintro e w' ⟨rfl, rfl⟩)
  go_cut [5, 6, 7] (fun s5 s6 s7 wx => ∃ g : Nat, s5 = .int .u64 x ∧ s6 = .int .i64 tl ∧ s7 = .pointer (some ⟨g, 0, none⟩) ∧ w.heap.size ≤ g ∧ Blk wx g #[.int .i64 e, .int .i64 bad] 29 ∧ Bel w wx)
  case first =>
    go_region_held3 (fun w' => w'.cell? ⟨b, 1, none⟩ = some (.slice A n c) ∧ w'.cell? ⟨b, 2, none⟩ = some (.int .i64 (k : Int))) (go_keep)
      (first | (go_at_call 12; first | (refine (G.out _ ?_).mono ?_; exact ((Bel.refl _).alloc _).drew; rintro r w1 ⟨rfl, hb1, k1, k2⟩; obtain ⟨d0, d1, d2, d3, dB⟩ := D.out w1 hb1; have hb2 : Bel w w1 := (((Bel.refl _).alloc _).drew).trans hb1; have hbig := Below.size hb1; clear hb1) | (refine (G.out _ ?_).mono ?_; exact (Bel.refl _).drew; rintro r w1 ⟨rfl, hb1, k1, k2⟩; have hb2 : Bel w w1 := (Bel.refl _).drew.trans hb1; clear hb1)))
    all_goals (go_wp2_with fail; go_meet; first | exact ⟨w1.heap.size, rfl, rfl, rfl, Below.size hb2, Blk.new _ _ _, hb2.alloc _⟩ | exact ⟨w.heap.size, rfl, rfl, rfl, Nat.le_refl _, (dB.out.set 0 _).set 1 _, (hb2.set (Nat.le_refl _) _).set (Nat.le_refl _) _⟩)
  case rest =>
    obtain ⟨g, rfl, rfl, rfl, hg, hG, hbel⟩ := hcut
    have HG := Lib.hid hG
    have HB := Lib.hid hbel
    have HR := Lib.hid (H.out.bel hbel)
    have g0 : wc.cell? ⟨g, 0, none⟩ = some (.int .i64 e) := hG.cell 0 rfl
    have hbl := H.out.blk.lt
    have hne : g ≠ b := by omega
    clear hG hbel c1 c2 n1
    rcases hm with ⟨rfl, rfl, rfl⟩ | ⟨he, rfl, rfl⟩
    · have k2 : wc.cell? ⟨b, 2, none⟩ = some (.int .i64 (k : Int)) := HR.out.blk.cell 2 rfl
      have f2 := HR.out.blk.frozen 2
      go_wp2
      go_ret
      exact ⟨rfl, ⟨none, HR.out.move hk', .inl ⟨rfl, rfl⟩, fun x hx => by cases hx⟩, (Kep.of_bel HB.out).set_self _ _⟩
    · have k3 : wc.cell? ⟨b, 3, none⟩ = some (.pointer none) := HR.out.blk.cell 3 rfl
      have f3 := HR.out.blk.frozen 3
      have fe : (e != 0) = true := by rw [bne_iff_ne]; exact he
      have HE := Lib.hid he
      have HX := Lib.hid (hx he)
      clear he hx
      go_wp2
      go_ret
      exact ⟨by rw [HX.out]; rfl, ⟨_, HR.out.fault (some ⟨g, 0, none⟩), .inr ⟨e, bad, g, rfl, rfl, hne, HG.out.other hne 3 _, HE.out⟩, fun x hx => by cases hx; exact hg⟩, (Kep.of_bel HB.out).set_self _ _⟩

set_option maxRecDepth 100000 in
set_option maxHeartbeats 1000000 in
theorem itemBx (b : Nat) (A : Option Addr) (n c : Nat) (zs : List Int) (k : Nat) (ys : List Int) (tl e bad : Int) (k' : Nat) (f' : Option (Int × Int)) (w : World) (h : RSt w b A n c zs k none) (p : Addr) (hG : ∀ w', Bel w w' → Calls Try.prog 64 #[.slice A n c, .int .i64 (k : Int), .pointer (some p)] w' fun r w1 => ∃ v, r = .returned (gotV v tl e bad) ∧ Fresh w' w1 v ys) (hm : Moves k tl e bad k' f') (hk' : k' ≤ n) (hx : e ≠ 0 → ys = []) :
    Calls Try.prog 63 #[.pointer (some ⟨b, 0, none⟩), .func (.func 64) #[] #[.pointer (some p)]] w fun r w' => ∃ v, r = .returned v ∧ w'.ownsRow w.heap.size 5 1 v ys.length (ys.map (Value.int .u8)) ∧ RX w' b A n c zs k' f' w.heap.size ∧ Kep (fun i => i = b) w w' := by
  have T := Lib.hid (trouble b A n c zs k none w h)
  have H := Lib.hid h
  have G := Lib.hid (fun w' (hb : Bel w w') => (hG w' hb).mono (R' := fun r w1 => ∃ v, r = .returned (gotV v tl e bad) ∧ Bel w' w1 ∧ Hid (w1.ownsRow w'.heap.size 5 1 v ys.length (ys.map (Value.int .u8))) ∧ w1.cell? ⟨b, 1, none⟩ = some (.slice A n c) ∧ w1.cell? ⟨b, 2, none⟩ = some (.int .i64 (k : Int))) fun r w1 ⟨v, hr⟩ => ⟨v, hr.1, hr.2.2, hr.2.1, (h.blk.bel (hb.trans hr.2.2)).cell 1 rfl, (h.blk.bel (hb.trans hr.2.2)).cell 2 rfl⟩)
  have c1 : w.cell? ⟨b, 1, none⟩ = some (.slice A n c) := h.blk.cell 1 rfl
  have c2 : w.cell? ⟨b, 2, none⟩ = some (.int .i64 (k : Int)) := h.blk.cell 2 rfl
  have n1 := World.new_ne w _ c1
  have D := Lib.hid (laid w 29)
  clear h hG
  go_enter Try.func63, Try.ntmps63
  go_upto_region 2 with (go_at_call 54; refine (T.out).mono ?_; rintro e w' ⟨rfl, rfl⟩)
  go_cut [5, 6, 7] (fun s5 s6 s7 wx => ∃ (g : Nat) (u : Value), s5 = u ∧ Hid (wx.ownsRow w.heap.size 5 1 u ys.length (ys.map (Value.int .u8))) ∧ s6 = .int .i64 tl ∧ s7 = .pointer (some ⟨g, 0, none⟩) ∧ w.heap.size ≤ g ∧ Blk wx g #[.int .i64 e, .int .i64 bad] 29 ∧ Bel w wx)
  case first =>
    go_region_held3 (fun w' => w'.cell? ⟨b, 1, none⟩ = some (.slice A n c) ∧ w'.cell? ⟨b, 2, none⟩ = some (.int .i64 (k : Int))) (go_keep)
      (first | (go_at_call 64; first | (refine (G.out _ ?_).mono ?_; exact ((Bel.refl _).alloc _).drew; rintro r w1 ⟨u, rfl, hb1, hu, k1, k2⟩; obtain ⟨d0, d1, d2, d3, dB⟩ := D.out w1 hb1; have hb2 : Bel w w1 := (((Bel.refl _).alloc _).drew).trans hb1; have hbig := Below.size hb1; clear hb1) | (refine (G.out _ ?_).mono ?_; exact (Bel.refl _).drew; rintro r w1 ⟨u, rfl, hb1, hu, k1, k2⟩; have hb2 : Bel w w1 := (Bel.refl _).drew.trans hb1; clear hb1)))
    all_goals (go_wp2_with fail; go_meet; first | exact ⟨w1.heap.size, u, rfl, (owns_mono hu.out (by first | exact Nat.le_refl _ | (simp; done) | (simp; omega))).alloc _, rfl, rfl, Below.size hb2, Blk.new _ _ _, hb2.alloc _⟩ | exact ⟨w.heap.size, u, rfl, own_set2 hu.out, rfl, rfl, Nat.le_refl _, (dB.out.set 0 _).set 1 _, (hb2.set (Nat.le_refl _) _).set (Nat.le_refl _) _⟩)
  case rest =>
    obtain ⟨g, u, rfl, hu, rfl, rfl, hg, hG, hbel⟩ := hcut
    have HG := Lib.hid hG
    have HB := Lib.hid hbel
    have HR := Lib.hid (H.out.bel hbel)
    have g0 : wc.cell? ⟨g, 0, none⟩ = some (.int .i64 e) := hG.cell 0 rfl
    have hbl := H.out.blk.lt
    have hne : g ≠ b := by omega
    have hub := Lib.hid (own_ne hu.out hbl)
    clear hG hbel c1 c2 n1
    rcases hm with ⟨rfl, rfl, rfl⟩ | ⟨he, rfl, rfl⟩
    · have k2 : wc.cell? ⟨b, 2, none⟩ = some (.int .i64 (k : Int)) := HR.out.blk.cell 2 rfl
      have f2 := HR.out.blk.frozen 2
      go_wp2
      go_ret
      exact ⟨_, rfl, owns_set hu.out hub.out 2 _, ⟨none, HR.out.move hk', .inl ⟨rfl, rfl⟩, fun x hx => by cases hx⟩, (Kep.of_bel HB.out).set_self _ _⟩
    · have k3 : wc.cell? ⟨b, 3, none⟩ = some (.pointer none) := HR.out.blk.cell 3 rfl
      have f3 := HR.out.blk.frozen 3
      have fe : (e != 0) = true := by rw [bne_iff_ne]; exact he
      have HE := Lib.hid he
      have HX := Lib.hid (hx he)
      clear he hx
      go_wp2
      go_ret
      exact ⟨_, rfl, by rw [HX.out]; exact World.ownsRow_nil _ _ _ _, ⟨_, HR.out.fault (some ⟨g, 0, none⟩), .inr ⟨e, bad, g, rfl, rfl, hne, HG.out.other hne 3 _, HE.out⟩, fun x hx => by cases hx; exact hg⟩, (Kep.of_bel HB.out).set_self _ _⟩


theorem rUx (b : Nat) (A : Option Addr) (n c : Nat) (zs : List Int) (k : Nat) (x : Int) (k' : Nat) (f' : Option (Int × Int)) (w : World) (hs : RSt w b A n c zs k none) (hr : RU zs k none x k' f') :
    Calls Try.prog 34 #[.pointer (some ⟨b, 0, none⟩)] w fun e w' => e = .returned (.int .u64 x) ∧ RX w' b A n c zs k' f' w.heap.size ∧ Kep (fun i => i = b) w w' := by
  rcases hr with ⟨p, h, _⟩ | ⟨_, tl, e, bad, hw, hm, hk, hx⟩
  · cases h
  have IT := Lib.hid (itemUx b A n c zs k x tl e bad k' f' w hs hw hm (by rw [← hs.sl.len]; exact hk) hx)
  clear hs hw hm hk hx
  go_enter Try.func34, Try.ntmps34
  go_wp2_with fail
  refine (IT.out).mono ?_
  rintro e w' ⟨rfl, h1, h2⟩
  have H1 := Lib.hid h1
  have H2 := Lib.hid h2
  clear h1 h2
  go_wp2
  go_ret
  exact ⟨rfl, H1.out, H2.out⟩

set_option maxRecDepth 100000 in
theorem rBx (b : Nat) (A : Option Addr) (n c : Nat) (zs : List Int) (k : Nat) (most : Int) (ys : List Int) (k' : Nat) (f' : Option (Int × Int)) (w : World) (h : RSt w b A n c zs k none) (hr : RB zs k none most ys k' f') (hm : most ≤ 9223372036854775807) :
    Calls Try.prog 37 #[.pointer (some ⟨b, 0, none⟩), .int .i64 most] w fun e w' => ∃ v, e = .returned v ∧ w'.ownsRow w.heap.size 5 1 v ys.length (ys.map (Value.int .u8)) ∧ RX w' b A n c zs k' f' w.heap.size ∧ Kep (fun i => i = b) w w' := by
  have b0 : Bel w (w.alloc (.cells #[.int .i64 most] 3)) := (Bel.refl w).alloc _
  have HB0 := Lib.hid b0
  have hs := h.bel b0
  have p1 : (w.alloc (.cells #[.int .i64 most] 3)).cell? ⟨w.heap.size, 0, none⟩ = some (.int .i64 most) := (Blk.new w _ _).cell 0 rfl
  have HP1 := Lib.hid p1
  rcases hr with ⟨p, h, _⟩ | ⟨_, tl, e, bad, hw, hmv, hk, hx⟩
  · cases h
  have IT := Lib.hid (itemBx b A n c zs k ys tl e bad k' f' _ hs ⟨w.heap.size, 0, none⟩ (fun w' hb => blob1 A n c zs k most ys tl e bad w.heap.size w' (hs.sl.bel hb) hs.len hs.bytes hw (bel_cell hb HP1.out) hm) hmv (by rw [← hs.sl.len]; exact hk) hx)
  clear hs hw hmv hk hx p1 b0 h
  go_enter Try.func37, Try.ntmps37
  go_wp2_with fail
  refine (IT.out).mono ?_
  rintro e w' ⟨v, rfl, h0, ⟨F, h1, h1', h1''⟩, h2⟩
  have H0 := Lib.hid h0
  have H1 : Hid (RX w' b A n c zs k' f' w.heap.size) := ⟨F, h1, h1', fun x hx => by have := h1'' x hx; rw [World.size_alloc] at this; omega⟩
  have H2 := Lib.hid h2
  clear h0 h1 h1' h1'' h2
  go_wp2
  go_ret
  exact ⟨v, rfl, owns_mono H0.out (by simp), H1.out, (Kep.of_bel HB0.out).trans H2.out⟩

theorem rHx (b : Nat) (A : Option Addr) (n c : Nat) (zs : List Int) (k : Nat) (hs : List Int) (k' : Nat) (f' : Option (Int × Int)) (w : World) (h1 : RSt w b A n c zs k none) (hr : RH zs k none hs k' f') :
    Calls Try.prog 36 #[.pointer (some ⟨b, 0, none⟩)] w fun e w' => e = .returned (hash hs) ∧ RX w' b A n c zs k' f' w.heap.size ∧ Kep (fun i => i = b) w w' := by
  have b0 : Bel w (w.alloc ZO) := (Bel.refl w).alloc _
  have hbl := h1.blk.lt
  rcases hr with ⟨p, h, _⟩ | ⟨_, hr⟩
  · cases h
  have hA : 0 < n → ∀ x : Addr, A = some x → x.block ≠ w.heap.size := fun hn x hx => by
    obtain ⟨b', o', h1, h2, _⟩ := h1.sl.ints.2 hn
    rw [h1] at hx
    cases hx
    exact Nat.ne_of_lt h2
  have hlen := h1.sl.len
  have fin : ∀ (ys : List Int), (Calls Try.prog 61 #[.pointer (some ⟨b, 0, none⟩), .func (.func 62) #[] #[]] (w.alloc ZO) fun r w1 => r = .returned (hash ys) ∧ (∃ F', RSt w1 b A n c zs k' F' ∧ Flt w1 b F' f' ∧ ∀ x : Addr, F' = some x → (w.alloc ZO).heap.size ≤ x.block) ∧ Kep (fun i => i = b) (w.alloc ZO) w1) → ys.length = 32 → ys = hs →
      Calls Try.prog 36 #[.pointer (some ⟨b, 0, none⟩)] w fun e w' => e = .returned (hash hs) ∧ RX w' b A n c zs k' f' w.heap.size ∧ Kep (fun i => i = b) w w' := by
    rintro ys hc hl rfl
    refine (rH_ b ys _ w hl hc hbl).mono ?_
    rintro r w' ⟨rfl, w1, ⟨F', h3, h4, h5⟩, hK, rfl⟩
    have h6 : ∀ x : Addr, F' = some x → w.heap.size < x.block := fun x hx => by
      have := h5 x hx
      rw [World.size_alloc] at this
      omega
    exact ⟨rfl, ⟨F', h3.kep0 (kep_setCells w.heap.size _ 0 w1) (Nat.ne_of_lt hbl) hA, h4.kep (kep_setCells w.heap.size _ 0 w1) (fun x hx => by have := h6 x hx; omega), fun x hx => Nat.le_of_lt (h6 x hx)⟩, kep_new ((Kep.of_bel b0).trans hK) (kep_setCells w.heap.size _ 0 w1)⟩
  rcases hr with ⟨hk, rfl, rfl, rfl⟩ | ⟨hk, rfl, rfl, rfl⟩
  · have hl : ((zs.drop k).take 32).length = 32 := by simp; omega
    have := itemH b A n c zs k ((zs.drop k).take 32) ((k : Int) + 32) 0 0 (k + 32) none (w.alloc ZO) (h1.bel b0) (fun w' hb => hash1_ok A n c zs k w' (h1.sl.bel (b0.trans hb)) h1.len (by omega)) hl (.inl ⟨rfl, by omega, rfl⟩) (by omega) (fun _ => by omega)
    exact fin _ this hl (if_pos rfl)
  · have := itemH b A n c zs k' (List.replicate 32 0) 0 6 (k' : Int) k' (some (6, (k' : Int))) (w.alloc ZO) (h1.bel b0) (fun w' hb => hash1_short A n c k' w' h1.len h1.le (by omega)) List.length_replicate (.inr ⟨by decide, rfl, rfl⟩) h1.le (fun h => absurd h (by decide))
    exact fin _ this (by simp) (by simp)
end Cd
end Go.Proofs.Ytejbhfcmhijfcaa
