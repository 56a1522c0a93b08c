/-
  What the reference's reader answers: End and U.
  Conditions: the reader is one that the reference's NewReader made of at most 10^6 bytes.
-/
import Derived.Test.YtpfdakkameifkaaGQRead
import Derived.Test.YtpfdakkameifkaaGRef02b
namespace Go.Proofs.Ytpfdakkameifkaa
open Go.RowKit Go.Shelf
set_option linter.unusedVariables false
namespace Cd

set_option maxRecDepth 100000 in
set_option maxHeartbeats 1000000 in
theorem qEnd (b : Nat) (A : Option Addr) (n c : Nat) (zs : List Int) (k : Nat) (f : Option (Int × Int)) (w : World) (h : QS w b A n c zs k f) :
    Calls Try.prog 91 #[.pointer (some ⟨b, 0, none⟩)] w fun r w' => r = .returned (fault (endOf zs.length k f)) ∧ Bel w w' := by
  have hw : Bel w (w.alloc (.cells #[.int .i64 0, .int .i64 0] 54)) := (Bel.refl w).alloc _
  have hB := h.blk.bel hw
  have k0 := hB.cell 0 rfl
  have k1 := hB.cell 1 rfl
  have k2 := hB.cell 2 rfl
  have k3 := hB.cell 3 rfl
  have hl := h.sl.len
  have h1 := h.len
  have h2 := h.le
  rcases hf : f with _ | ⟨e', p'⟩
  · subst hf
    replace k2 : (w.alloc (.cells #[.int .i64 0, .int .i64 0] 54)).cell? ⟨b, 2, none⟩ = some (.int .i64 0) := k2
    replace k3 : (w.alloc (.cells #[.int .i64 0, .int .i64 0] 54)).cell? ⟨b, 3, none⟩ = some (.int .i64 0) := k3
    by_cases hlt : k < n
    · have g : (k : Int) < (n : Int) := by omega
      have E := Lib.hid (show endOf zs.length k none = (4, (k : Int)) from if_pos (by rw [hl]; exact hlt))
      clear h hB hw
      go_enter Try.func91, Try.ntmps91
      go_wp2_with fail
      go_quiet (fail)
      go_wp2
      rw [E.out]
      refine bodyPost_ret (v := .agg #[.int .i64 4, .int .i64 (k : Int)]) (by simp [results, Try.results91, go_sem]) rfl ⟨rfl, ?_⟩
      first | exact ((Bel.refl _).drewN _).alloc _ | exact ((Bel.refl _).alloc _).drewN _ | exact ((((Bel.refl _).alloc _).drewN _).set (Nat.le_refl _) _).set (Nat.le_refl _) _
    · have g : (n : Int) ≤ (k : Int) := by omega
      have E := Lib.hid (show endOf zs.length k none = (0, 0) from if_neg (by rw [hl]; exact hlt))
      clear h hB hw
      go_enter Try.func91, Try.ntmps91
      go_wp2_with fail
      go_quiet (fail)
      go_wp2
      rw [E.out]
      refine bodyPost_ret (v := .agg #[.int .i64 0, .int .i64 0]) (by simp [results, Try.results91, go_sem]) rfl ⟨rfl, ?_⟩
      first | exact ((Bel.refl _).drewN _).alloc _ | exact ((Bel.refl _).alloc _).drewN _ | exact ((((Bel.refl _).alloc _).drewN _).set (Nat.le_refl _) _).set (Nat.le_refl _) _
  · subst hf
    have he : e' ≠ 0 := h.flt _ rfl
    have fe : (e' == 0) = false := by rw [beq_eq_false_iff_ne]; exact he
    have E := Lib.hid (show endOf zs.length k (some (e', p')) = (e', p') from rfl)
    replace k2 : (w.alloc (.cells #[.int .i64 0, .int .i64 0] 54)).cell? ⟨b, 2, none⟩ = some (.int .i64 e') := k2
    replace k3 : (w.alloc (.cells #[.int .i64 0, .int .i64 0] 54)).cell? ⟨b, 3, none⟩ = some (.int .i64 p') := k3
    clear h hB he hw
    go_enter Try.func91, Try.ntmps91
    go_wp2_with fail
    go_quiet (fail)
    go_wp2
    rw [E.out]
    refine bodyPost_ret (v := .agg #[.int .i64 e', .int .i64 p']) (by simp [results, Try.results91, go_sem]) rfl ⟨rfl, ?_⟩
    first | exact ((Bel.refl _).drewN _).alloc _ | exact ((Bel.refl _).alloc _).drewN _ | exact ((((Bel.refl _).alloc _).drewN _).set (Nat.le_refl _) _).set (Nat.le_refl _) _

set_option maxRecDepth 100000 in
set_option maxHeartbeats 1000000 in
theorem qU (b : Nat) (A : Option Addr) (n c : Nat) (zs : List Int) (k : Nat) (f : Option (Int × Int)) (x : Int) (k' : Nat) (f' : Option (Int × Int)) (w : World) (h : QS w b A n c zs k f) (hr : RU zs k f x k' f') :
    Calls Try.prog 89 #[.pointer (some ⟨b, 0, none⟩)] w fun r w' => r = .returned (.int .u64 x) ∧ QS w' b A n c zs k' f' ∧ Kep (fun i => i = b) w w' := by
  have H := Lib.hid h
  have k2 := h.blk.cell 2 rfl
  rcases hr with ⟨p, rfl, rfl, rfl, rfl⟩ | ⟨rfl, tl, e, bad, hw, hm, hk', hx⟩
  · have he : p.1 ≠ 0 := h.flt _ rfl
    have fe : (p.1 != 0) = true := by rw [bne_iff_ne]; exact he
    replace k2 : w.cell? ⟨b, 2, none⟩ = some (.int .i64 p.1) := k2
    clear h he
    go_enter Try.func89, Try.ntmps89
    go_wp2
    go_ret
    exact ⟨rfl, H.out, Kep.refl _ _⟩
  replace k2 : w.cell? ⟨b, 2, none⟩ = some (.int .i64 0) := k2
  have hkn : k' ≤ n := by rw [← h.sl.len]; exact hk'
  have G := Lib.hid (fun w' (hb : Bel w w') => (ref_get A n c zs k x tl e bad w' (h.sl.bel hb).ints (by have := h.len; omega) h.bytes hw).mono (R' := fun r w1 => r = .returned (got x tl e bad) ∧ Bel w' w1 ∧ w1.cell? ⟨b, 0, none⟩ = some (.slice A n c) ∧ w1.cell? ⟨b, 1, none⟩ = some (.int .i64 (k : Int))) fun r w1 hr => ⟨hr.1, hr.2, (h.blk.bel (hb.trans hr.2)).cell 0 rfl, (h.blk.bel (hb.trans hr.2)).cell 1 rfl⟩)
  have c0 : w.cell? ⟨b, 0, none⟩ = some (.slice A n c) := h.blk.cell 0 rfl
  have c1 : w.cell? ⟨b, 1, none⟩ = some (.int .i64 (k : Int)) := h.blk.cell 1 rfl
  have n1 := World.new_ne w _ c1
  have D := Lib.hid (laid w 54)
  clear h hw hk'
  go_enter Try.func89, Try.ntmps89
  go_upto_region 3 with fail
  go_cut [3, 4, 5] (fun s3 s4 s5 wx => ∃ g : Nat, s3 = .int .u64 x ∧ s4 = .int .i64 tl ∧ s5 = .pointer (some ⟨g, 0, none⟩) ∧ w.heap.size ≤ g ∧ Blk wx g #[.int .i64 e, .int .i64 bad] 54 ∧ Bel w wx)
  case first =>
    go_region_held3 (fun w' => w'.cell? ⟨b, 0, none⟩ = some (.slice A n c) ∧ w'.cell? ⟨b, 1, none⟩ = some (.int .i64 (k : Int))) (go_keep)
      (first | (go_at_call 108; first | (refine (G.out _ ?_).mono ?_; exact ((Bel.refl _).alloc _).drew; rintro r w1 ⟨rfl, hb1, k1, k2⟩; obtain ⟨d0, d1, d2, d3, dB⟩ := D.out w1 hb1; have hb2 : Bel w w1 := (((Bel.refl _).alloc _).drew).trans hb1; have hbig := Below.size hb1; clear hb1) | (refine (G.out _ ?_).mono ?_; exact (Bel.refl _).drew; rintro r w1 ⟨rfl, hb1, k1, k2⟩; have hb2 : Bel w w1 := (Bel.refl _).drew.trans hb1; clear hb1)))
    all_goals (go_wp2_with fail; go_meet; first | exact ⟨w1.heap.size, rfl, rfl, rfl, Below.size hb2, Blk.new _ _ _, hb2.alloc _⟩ | exact ⟨w.heap.size, rfl, rfl, rfl, Nat.le_refl _, (dB.out.set 0 _).set 1 _, (hb2.set (Nat.le_refl _) _).set (Nat.le_refl _) _⟩)
  case rest =>
    obtain ⟨g, rfl, rfl, rfl, hg, hG, hbel⟩ := hcut
    have HB := Lib.hid hbel
    have HR := Lib.hid (H.out.bel hbel)
    have g0 : wc.cell? ⟨g, 0, none⟩ = some (.int .i64 e) := hG.cell 0 rfl
    have g1 : wc.cell? ⟨g, 1, none⟩ = some (.int .i64 bad) := hG.cell 1 rfl
    clear hG hbel c0 c1 n1 k2
    rcases hm with ⟨rfl, rfl, rfl⟩ | ⟨he, rfl, rfl⟩
    · have k1 : wc.cell? ⟨b, 1, none⟩ = some (.int .i64 (k : Int)) := HR.out.blk.cell 1 rfl
      have f1 := HR.out.blk.frozen 1
      go_wp2
      go_ret
      exact ⟨rfl, (HR.out.turn ((Kep.refl _ _).set_self 1 _) (HR.out.blk.set 1 _) hkn (fun q hq => by cases hq)), (Kep.of_bel HB.out).set_self _ _⟩
    · have k2 : wc.cell? ⟨b, 2, none⟩ = some (.int .i64 0) := HR.out.blk.cell 2 rfl
      have k3 : wc.cell? ⟨b, 3, none⟩ = some (.int .i64 0) := HR.out.blk.cell 3 rfl
      have f2 := HR.out.blk.frozen 2
      have f3 := HR.out.blk.frozen 3
      have fe : (e != 0) = true := by rw [bne_iff_ne]; exact he
      have HE := Lib.hid he
      have HX := Lib.hid (hx he)
      clear he hx
      go_wp2
      go_ret
      exact ⟨by rw [HX.out]; rfl, HR.out.turn (((Kep.refl _ _).set_self 2 _).set_self 3 _) ((HR.out.blk.set 2 _).set 3 _) HR.out.le (fun q hq => by cases hq; exact HE.out), ((Kep.of_bel HB.out).set_self _ _).set_self _ _⟩
end Cd
end Go.Proofs.Ytpfdakkameifkaa
