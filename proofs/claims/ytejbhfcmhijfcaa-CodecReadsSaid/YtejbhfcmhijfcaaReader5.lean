/-
  What item of a reader answers in this program where the item is bytes, and what U, N and Blob answer.
  Conditions: the reader is one that NewReader made of at most 10^6 bytes.
-/
import Derived.Test.YtejbhfcmhijfcaaReader4
namespace Go.Proofs.Ytejbhfcmhijfcaa
open Go.RowKit Go.Shelf
set_option linter.unusedVariables false
namespace Cd

theorem own_ne {w : World} {base : Nat} {e : TypeId} {size : Nat} {v : Value} {n : Nat} {xs : List Value} (h : w.ownsRow base e size v n xs) {b : Nat} (hb : b < base) : v.ownBlock ≠ some b := fun e => by
  have := (h.lt _ e).1
  omega
theorem own_set2 {w w1 : World} {v : Value} {n : Nat} {xs : List Value} {o : Obj} (h : w1.ownsRow (w.alloc o).drew.heap.size 5 1 v n xs) {u1 u2 : Value} : Hid (((w1.setCell ⟨w.heap.size, 0, none⟩ u1).setCell ⟨w.heap.size, 1, none⟩ u2).ownsRow w.heap.size 5 1 v n xs) := by
  have hne : v.ownBlock ≠ some w.heap.size := fun e => by have := (h.lt _ e).1; simp at this; omega
  exact owns_set (owns_set (owns_mono h (by simp)) hne 0 _) hne 1 _

set_option maxRecDepth 100000 in
set_option maxHeartbeats 1000000 in
theorem itemB_fault (b : Nat) (A : Option Addr) (n c : Nat) (zs : List Int) (k : Nat) (x : Addr) (fn : Value) (w : World) (h : RSt w b A n c zs k (some x)) :
    Calls Try.prog 63 #[.pointer (some ⟨b, 0, none⟩), fn] w fun e w' => e = .returned (.slice none 0 0) ∧ w = w' := by
  have T := Lib.hid (trouble b A n c zs k _ w h)
  clear h
  go_enter Try.func63, Try.ntmps63
  go_wp2_with (go_at_call 54; refine (T.out).mono ?_; rintro e w' ⟨rfl, rfl⟩)
  go_ret
  exact ⟨rfl, rfl⟩

set_option maxRecDepth 100000 in
set_option maxHeartbeats 1000000 in
theorem itemB (b : Nat) (A : Option Addr) (n c : Nat) (zs : List Int) (k : Nat) (ys : List Int) (tl e bad : Int) (k' : Nat) (f' : Option (Int × Int)) (w : World) (h : RSt w b A n c zs k none) (p : Addr) (hG : ∀ w', Bel w w' → Calls Try.prog 64 #[.slice A n c, .int .i64 (k : Int), .pointer (some p)] w' fun r w1 => ∃ v, r = .returned (gotV v tl e bad) ∧ Fresh w' w1 v ys) (hm : Moves k tl e bad k' f') (hk' : k' ≤ n) (hx : e ≠ 0 → ys = []) :
    Calls Try.prog 63 #[.pointer (some ⟨b, 0, none⟩), .func (.func 64) #[] #[.pointer (some p)]] w fun r w' => ∃ v, r = .returned v ∧ w'.ownsRow w.heap.size 5 1 v ys.length (ys.map (Value.int .u8)) ∧ RS w' b zs k' f' ∧ Kep (fun i => i = b) w w' := by
  have T := Lib.hid (trouble b A n c zs k none w h)
  have H := Lib.hid h
  have G := Lib.hid (fun w' (hb : Bel w w') => (hG w' hb).mono (R' := fun r w1 => ∃ v, r = .returned (gotV v tl e bad) ∧ Bel w' w1 ∧ Hid (w1.ownsRow w'.heap.size 5 1 v ys.length (ys.map (Value.int .u8))) ∧ w1.cell? ⟨b, 1, none⟩ = some (.slice A n c) ∧ w1.cell? ⟨b, 2, none⟩ = some (.int .i64 (k : Int))) fun r w1 ⟨v, hr⟩ => ⟨v, hr.1, hr.2.2, hr.2.1, (h.blk.bel (hb.trans hr.2.2)).cell 1 rfl, (h.blk.bel (hb.trans hr.2.2)).cell 2 rfl⟩)
  have c1 : w.cell? ⟨b, 1, none⟩ = some (.slice A n c) := h.blk.cell 1 rfl
  have c2 : w.cell? ⟨b, 2, none⟩ = some (.int .i64 (k : Int)) := h.blk.cell 2 rfl
  have n1 := World.new_ne w _ c1
  have D := Lib.hid (laid w 29)
  clear h hG
  go_enter Try.func63, Try.ntmps63
  go_upto_region 2 with (go_at_call 54; refine (T.out).mono ?_; rintro e w' ⟨rfl, rfl⟩)
  go_cut [5, 6, 7] (fun s5 s6 s7 wx => ∃ (g : Nat) (u : Value), s5 = u ∧ Hid (wx.ownsRow w.heap.size 5 1 u ys.length (ys.map (Value.int .u8))) ∧ s6 = .int .i64 tl ∧ s7 = .pointer (some ⟨g, 0, none⟩) ∧ w.heap.size ≤ g ∧ Blk wx g #[.int .i64 e, .int .i64 bad] 29 ∧ Bel w wx)
  case first =>
    go_region_held3 (fun w' => w'.cell? ⟨b, 1, none⟩ = some (.slice A n c) ∧ w'.cell? ⟨b, 2, none⟩ = some (.int .i64 (k : Int))) (go_keep)
      (first | (go_at_call 64; first | (refine (G.out _ ?_).mono ?_; exact ((Bel.refl _).alloc _).drew; rintro r w1 ⟨u, rfl, hb1, hu, k1, k2⟩; obtain ⟨d0, d1, d2, d3, dB⟩ := D.out w1 hb1; have hb2 : Bel w w1 := (((Bel.refl _).alloc _).drew).trans hb1; have hbig := Below.size hb1; clear hb1) | (refine (G.out _ ?_).mono ?_; exact (Bel.refl _).drew; rintro r w1 ⟨u, rfl, hb1, hu, k1, k2⟩; have hb2 : Bel w w1 := (Bel.refl _).drew.trans hb1; clear hb1)))
    all_goals (go_wp2_with fail; go_meet; first | exact ⟨w1.heap.size, u, rfl, (owns_mono hu.out (by first | exact Nat.le_refl _ | (simp; done) | (simp; omega))).alloc _, rfl, rfl, Below.size hb2, Blk.new _ _ _, hb2.alloc _⟩ | exact ⟨w.heap.size, u, rfl, own_set2 hu.out, rfl, rfl, Nat.le_refl _, (dB.out.set 0 _).set 1 _, (hb2.set (Nat.le_refl _) _).set (Nat.le_refl _) _⟩)
  case rest =>
    obtain ⟨g, u, rfl, hu, rfl, rfl, hg, hG, hbel⟩ := hcut
    have HG := Lib.hid hG
    have HB := Lib.hid hbel
    have HR := Lib.hid (H.out.bel hbel)
    have g0 : wc.cell? ⟨g, 0, none⟩ = some (.int .i64 e) := hG.cell 0 rfl
    have hbl := H.out.blk.lt
    have hne : g ≠ b := by omega
    have hub := Lib.hid (own_ne hu.out hbl)
    clear hG hbel c1 c2 n1
    rcases hm with ⟨rfl, rfl, rfl⟩ | ⟨he, rfl, rfl⟩
    · have k2 : wc.cell? ⟨b, 2, none⟩ = some (.int .i64 (k : Int)) := HR.out.blk.cell 2 rfl
      have f2 := HR.out.blk.frozen 2
      go_wp2
      go_ret
      exact ⟨_, rfl, owns_set hu.out hub.out 2 _, ⟨A, n, c, none, HR.out.move hk', .inl ⟨rfl, rfl⟩⟩, (Kep.of_bel HB.out).set_self _ _⟩
    · have k3 : wc.cell? ⟨b, 3, none⟩ = some (.pointer none) := HR.out.blk.cell 3 rfl
      have f3 := HR.out.blk.frozen 3
      have fe : (e != 0) = true := by rw [bne_iff_ne]; exact he
      have HE := Lib.hid he
      have HX := Lib.hid (hx he)
      clear he hx
      go_wp2
      go_ret
      exact ⟨_, rfl, by rw [HX.out]; exact World.ownsRow_nil _ _ _ _, ⟨A, n, c, _, HR.out.fault (some ⟨g, 0, none⟩), .inr ⟨e, bad, g, rfl, rfl, hne, HG.out.other hne 3 _, HE.out⟩⟩, (Kep.of_bel HB.out).set_self _ _⟩

/-! ### The methods -/
def RU (zs : List Int) (k : Nat) (f : Option (Int × Int)) (x : Int) (k' : Nat) (f' : Option (Int × Int)) : Prop :=
  (∃ p, f = some p ∧ x = 0 ∧ k' = k ∧ f' = f) ∨ (f = none ∧ ∃ tl e bad, Way zs k x tl e bad ∧ Moves k tl e bad k' f' ∧ k' ≤ zs.length ∧ (e ≠ 0 → x = 0))
def RN (zs : List Int) (k : Nat) (f : Option (Int × Int)) (least most x : Int) (k' : Nat) (f' : Option (Int × Int)) : Prop :=
  (∃ p, f = some p ∧ x = 0 ∧ k' = k ∧ f' = f) ∨ (f = none ∧ ∃ tl e bad, NWay zs k least most x tl e bad ∧ Moves k tl e bad k' f' ∧ k' ≤ zs.length ∧ (e ≠ 0 → x = 0))
def RB (zs : List Int) (k : Nat) (f : Option (Int × Int)) (most : Int) (ys : List Int) (k' : Nat) (f' : Option (Int × Int)) : Prop :=
  (∃ p, f = some p ∧ ys = [] ∧ k' = k ∧ f' = f) ∨ (f = none ∧ ∃ tl e bad, BWay zs k most ys tl e bad ∧ Moves k tl e bad k' f' ∧ k' ≤ zs.length ∧ (e ≠ 0 → ys = []))

theorem rU (b : Nat) (zs : List Int) (k : Nat) (f : Option (Int × Int)) (x : Int) (k' : Nat) (f' : Option (Int × Int)) (w : World) (h : RS w b zs k f) (hr : RU zs k f x k' f') :
    Calls Try.prog 34 #[.pointer (some ⟨b, 0, none⟩)] w fun e w' => e = .returned (.int .u64 x) ∧ RS w' b zs k' f' ∧ Kep (fun i => i = b) w w' := by
  obtain ⟨A, n, c, F, hs, hf⟩ := h
  rcases hr with ⟨p, rfl, rfl, rfl, rfl⟩ | ⟨rfl, tl, e, bad, hw, hm, hk, hx⟩
  · obtain ⟨_, _⟩ | ⟨e, q, fb, h1, rfl, h3, h4, h5⟩ := hf
    · contradiction
    have IT := Lib.hid (itemU_fault b A n c zs k' ⟨fb, 0, none⟩ (.func (.func 12) #[] #[]) w hs)
    have HR : Hid (RS w b zs k' (some p)) := ⟨A, n, c, _, hs, .inr ⟨e, q, fb, h1, rfl, h3, h4, h5⟩⟩
    clear hs h1 h3 h4 h5
    go_enter Try.func34, Try.ntmps34
    go_wp2_with fail
    refine (IT.out).mono ?_
    rintro e w' ⟨rfl, rfl⟩
    go_wp2
    go_ret
    exact ⟨rfl, HR.out, Kep.refl _ _⟩
  · obtain ⟨_, rfl⟩ | ⟨e, q, fb, h1, _⟩ := hf
    · have IT := Lib.hid (itemU b A n c zs k x tl e bad k' f' w hs hw hm (by rw [← hs.sl.len]; exact hk) hx)
      clear hs hw hm hk hx
      go_enter Try.func34, Try.ntmps34
      go_wp2_with fail
      refine (IT.out).mono ?_
      rintro e w' ⟨rfl, h1, h2⟩
      have H1 := Lib.hid h1
      have H2 := Lib.hid h2
      clear h1 h2
      go_wp2
      go_ret
      exact ⟨rfl, H1.out, H2.out⟩
    · cases h1
end Cd
end Go.Proofs.Ytejbhfcmhijfcaa
