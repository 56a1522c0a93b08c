/-
  Texts of this claim, put together: QRead, QRead2, QRead3, QRead4, QRead5, QRead6, ReadN. What each one says, and under which conditions, stands ahead of it.
-/
import Derived.Test.YtgalhpejihmhkaaGH
import Derived.Test.YtgalhpejihmhkaaGE

section
/-
  What the reference's reader answers: Fail, At, Left, End, NewReader.
  Conditions: the reader is one that the reference's NewReader made of at most 10^6 bytes.
-/
namespace Go.Proofs.Ytgalhpejihmhkaa
open Go.RowKit Go.Shelf
set_option linter.unusedVariables false
namespace Cd

/-- A fault's error and place; none: zeroes. -/
def fE (f : Option (Int × Int)) : Int := match f with
  | some q => q.1
  | none => 0
def fP (f : Option (Int × Int)) : Int := match f with
  | some q => q.2
  | none => 0
/-- The reference's reader: where it lies, its bytes, its place, its fault. -/
structure QS (w : World) (b : Nat) (A : Option Addr) (n c : Nat) (zs : List Int) (k : Nat) (f : Option (Int × Int)) : Prop where
  blk : Blk w b #[.slice A n c, .int .i64 (k : Int), .int .i64 (fE f), .int .i64 (fP f)] 76
  sl : Sl w A n c zs
  len : n ≤ 1000000
  bytes : Bytes zs
  le : k ≤ n
  apart : 0 < n → ∀ x : Addr, A = some x → x.block ≠ b
  flt : ∀ q, f = some q → q.1 ≠ 0
theorem QS.kep {S : Nat → Prop} {w w' : World} {b : Nat} {A : Option Addr} {n c : Nat} {zs : List Int} {k : Nat} {f : Option (Int × Int)} (h : QS w b A n c zs k f) (hk : Kep S w w') (h1 : ¬ S b) (h2 : 0 < n → ∀ x : Addr, A = some x → ¬ S x.block) : QS w' b A n c zs k f := by
  refine ⟨h.blk.kep hk h1, ⟨?_, h.sl.cap, h.sl.nil⟩, h.len, h.bytes, h.le, h.apart, h.flt⟩
  rcases Nat.eq_zero_or_pos n with h0 | h0
  · exact ⟨h.sl.ints.1, fun hn => absurd hn (by omega)⟩
  · exact hk.ints (h2 h0) h.sl.ints
theorem QS.bel {w w' : World} {b : Nat} {A : Option Addr} {n c : Nat} {zs : List Int} {k : Nat} {f : Option (Int × Int)} (h : QS w b A n c zs k f) (hk : Bel w w') : QS w' b A n c zs k f :=
  h.kep (S := fun _ => False) (Kep.of_bel hk) id (fun _ _ _ => id)
/-- A block turned, all else as it was. -/
theorem QS.turn {w w' : World} {b : Nat} {A : Option Addr} {n c : Nat} {zs : List Int} {k k' : Nat} {f f' : Option (Int × Int)} (h : QS w b A n c zs k f) (hk : Kep (fun i => i = b) w w')
    (hb : Blk w' b #[.slice A n c, .int .i64 (k' : Int), .int .i64 (fE f'), .int .i64 (fP f')] 76) (hk' : k' ≤ n) (hf : ∀ q, f' = some q → q.1 ≠ 0) : QS w' b A n c zs k' f' := by
  refine ⟨hb, ⟨?_, h.sl.cap, h.sl.nil⟩, h.len, h.bytes, hk', h.apart, hf⟩
  rcases Nat.eq_zero_or_pos n with h0 | h0
  · exact ⟨h.sl.ints.1, fun hn => absurd hn (by omega)⟩
  · exact hk.ints (h.apart h0) h.sl.ints

set_option maxRecDepth 100000 in
theorem qNew (A : Option Addr) (n c : Nat) (zs : List Int) (w : World) (hs : Sl w A n c zs) (hn : n ≤ 1000000) (hb : Bytes zs) :
    Calls Try.prog 24 #[.slice A n c] w fun e w' => ∃ b A' c', e = .returned (.pointer (some ⟨b, 0, none⟩)) ∧ w.heap.size ≤ b ∧ QS w' b A' n c' zs 0 none ∧ (0 < n → ∀ x : Addr, A' = some x → w.heap.size ≤ x.block ∧ x.block < b) ∧ Bel w w' := by
  have CL := Lib.hid (copyBytes A n c zs w hs (by omega))
  have hl := hs.len
  clear hs
  go_enter Try.func24, Try.ntmps24
  go_wp2_with fail
  refine (CL.out).mono ?_
  rintro e w1 ⟨u, rfl, hu⟩
  obtain ⟨A', c', hv, hs'⟩ := hu.sl
  subst hv
  have b1 : Bel w w1 := hu.2
  rw [hl] at hs'
  have HS := Lib.hid hs'
  have HA : Hid (∀ x : Addr, A' = some x → w.heap.size ≤ x.block ∧ x.block < w1.heap.size) := by rintro x rfl; exact hu.1.lt _ rfl
  clear hs' hu
  have hlt1 : w.heap.size ≤ w1.heap.size := Below.size b1
  go_wp2
  go_ret
  exact ⟨w1.heap.size, A', c', rfl, hlt1, ⟨Blk.new _ _ _, HS.out.bel ((Bel.refl _).alloc _), hn, hb, Nat.zero_le _, fun _ x hx => by have := HA.out x hx; omega, fun q h => by cases h⟩, fun _ x hx => HA.out x hx, b1.alloc _⟩

set_option maxRecDepth 100000 in
theorem qFail (b : Nat) (A : Option Addr) (n c : Nat) (zs : List Int) (k : Nat) (f : Option (Int × Int)) (e p : Int) (w : World) (h : QS w b A n c zs k f) :
    Calls Try.prog 45 #[.pointer (some ⟨b, 0, none⟩), .int .i64 e, .int .i64 p] w fun r w' => r = .returned (.tuple #[]) ∧ QS w' b A n c zs k (failOf f e p) ∧ Kep (fun i => i = b) w w' := by
  have H := Lib.hid h
  have k2 : w.cell? ⟨b, 2, none⟩ = some (.int .i64 (fE f)) := h.blk.cell 2 rfl
  have k3 : w.cell? ⟨b, 3, none⟩ = some (.int .i64 (fP f)) := h.blk.cell 3 rfl
  have f2 := h.blk.frozen 2
  have f3 := h.blk.frozen 3
  rcases hf : f with _ | ⟨e', p'⟩
  · subst hf
    by_cases he : e = 0
    · have E := Lib.hid (show failOf none e p = none from if_pos he)
      have fe : (e != 0) = false := by rw [he]; rfl
      replace k2 : w.cell? ⟨b, 2, none⟩ = some (.int .i64 0) := k2
      clear h he
      go_enter Try.func45, Try.ntmps45
      go_wp2
      go_end0
      rw [E.out]
      exact ⟨rfl, H.out, Kep.refl _ _⟩
    · have E := Lib.hid (show failOf none e p = some (e, p) from if_neg he)
      have fe : (e != 0) = true := by rw [bne_iff_ne]; exact he
      have HE := Lib.hid he
      replace k2 : w.cell? ⟨b, 2, none⟩ = some (.int .i64 0) := k2
      replace k3 : w.cell? ⟨b, 3, none⟩ = some (.int .i64 0) := k3
      clear h he
      go_enter Try.func45, Try.ntmps45
      go_wp2
      go_end0
      rw [E.out]
      exact ⟨rfl, H.out.turn (((Kep.refl _ _).set_self 2 _).set_self 3 _) ((H.out.blk.set 2 _).set 3 _) H.out.le (fun q hq => by cases hq; exact HE.out), ((Kep.refl _ _).set_self 2 _).set_self 3 _⟩
  · have E := Lib.hid (show failOf (some (e', p')) e p = some (e', p') by unfold failOf; split <;> rfl)
    subst hf
    have he := h.flt _ rfl
    have fe : (e' == 0) = false := by rw [beq_eq_false_iff_ne]; exact he
    replace k2 : w.cell? ⟨b, 2, none⟩ = some (.int .i64 e') := k2
    clear h he
    go_enter Try.func45, Try.ntmps45
    go_wp2
    go_end0
    rw [E.out]
    exact ⟨rfl, H.out, Kep.refl _ _⟩

end Cd
end Go.Proofs.Ytgalhpejihmhkaa
end

section
/-
  What the reference's reader answers: End and U.
  Conditions: the reader is one that the reference's NewReader made of at most 10^6 bytes.
-/
namespace Go.Proofs.Ytgalhpejihmhkaa
open Go.RowKit Go.Shelf
set_option linter.unusedVariables false
namespace Cd

set_option maxRecDepth 100000 in
set_option maxHeartbeats 1000000 in
theorem qEnd (b : Nat) (A : Option Addr) (n c : Nat) (zs : List Int) (k : Nat) (f : Option (Int × Int)) (w : World) (h : QS w b A n c zs k f) :
    Calls Try.prog 28 #[.pointer (some ⟨b, 0, none⟩)] w fun r w' => r = .returned (fault (endOf zs.length k f)) ∧ Bel w w' := by
  have hw : Bel w (w.alloc (.cells #[.int .i64 0, .int .i64 0] 32)) := (Bel.refl w).alloc _
  have hB := h.blk.bel hw
  have k0 := hB.cell 0 rfl
  have k1 := hB.cell 1 rfl
  have k2 := hB.cell 2 rfl
  have k3 := hB.cell 3 rfl
  have hl := h.sl.len
  have h1 := h.len
  have h2 := h.le
  rcases hf : f with _ | ⟨e', p'⟩
  · subst hf
    replace k2 : (w.alloc (.cells #[.int .i64 0, .int .i64 0] 32)).cell? ⟨b, 2, none⟩ = some (.int .i64 0) := k2
    replace k3 : (w.alloc (.cells #[.int .i64 0, .int .i64 0] 32)).cell? ⟨b, 3, none⟩ = some (.int .i64 0) := k3
    by_cases hlt : k < n
    · have g : (k : Int) < (n : Int) := by omega
      have E := Lib.hid (show endOf zs.length k none = (4, (k : Int)) from if_pos (by rw [hl]; exact hlt))
      clear h hB hw
      go_enter Try.func28, Try.ntmps28
      go_wp2_with fail
      go_quiet (fail)
      go_wp2
      rw [E.out]
      refine bodyPost_ret (v := .agg #[.int .i64 4, .int .i64 (k : Int)]) (by simp [results, Try.results28, go_sem]) rfl ⟨rfl, ?_⟩
      first | exact ((Bel.refl _).drewN _).alloc _ | exact ((Bel.refl _).alloc _).drewN _ | exact ((((Bel.refl _).alloc _).drewN _).set (Nat.le_refl _) _).set (Nat.le_refl _) _
    · have g : (n : Int) ≤ (k : Int) := by omega
      have E := Lib.hid (show endOf zs.length k none = (0, 0) from if_neg (by rw [hl]; exact hlt))
      clear h hB hw
      go_enter Try.func28, Try.ntmps28
      go_wp2_with fail
      go_quiet (fail)
      go_wp2
      rw [E.out]
      refine bodyPost_ret (v := .agg #[.int .i64 0, .int .i64 0]) (by simp [results, Try.results28, go_sem]) rfl ⟨rfl, ?_⟩
      first | exact ((Bel.refl _).drewN _).alloc _ | exact ((Bel.refl _).alloc _).drewN _ | exact ((((Bel.refl _).alloc _).drewN _).set (Nat.le_refl _) _).set (Nat.le_refl _) _
  · subst hf
    have he : e' ≠ 0 := h.flt _ rfl
    have fe : (e' == 0) = false := by rw [beq_eq_false_iff_ne]; exact he
    have E := Lib.hid (show endOf zs.length k (some (e', p')) = (e', p') from rfl)
    replace k2 : (w.alloc (.cells #[.int .i64 0, .int .i64 0] 32)).cell? ⟨b, 2, none⟩ = some (.int .i64 e') := k2
    replace k3 : (w.alloc (.cells #[.int .i64 0, .int .i64 0] 32)).cell? ⟨b, 3, none⟩ = some (.int .i64 p') := k3
    clear h hB he hw
    go_enter Try.func28, Try.ntmps28
    go_wp2_with fail
    go_quiet (fail)
    go_wp2
    rw [E.out]
    refine bodyPost_ret (v := .agg #[.int .i64 e', .int .i64 p']) (by simp [results, Try.results28, go_sem]) rfl ⟨rfl, ?_⟩
    first | exact ((Bel.refl _).drewN _).alloc _ | exact ((Bel.refl _).alloc _).drewN _ | exact ((((Bel.refl _).alloc _).drewN _).set (Nat.le_refl _) _).set (Nat.le_refl _) _

set_option maxRecDepth 100000 in
set_option maxHeartbeats 1000000 in
theorem qU (b : Nat) (A : Option Addr) (n c : Nat) (zs : List Int) (k : Nat) (f : Option (Int × Int)) (x : Int) (k' : Nat) (f' : Option (Int × Int)) (w : World) (h : QS w b A n c zs k f) (hr : RU zs k f x k' f') :
    Calls Try.prog 27 #[.pointer (some ⟨b, 0, none⟩)] w fun r w' => r = .returned (.int .u64 x) ∧ QS w' b A n c zs k' f' ∧ Kep (fun i => i = b) w w' := by
  have H := Lib.hid h
  have k2 := h.blk.cell 2 rfl
  rcases hr with ⟨p, rfl, rfl, rfl, rfl⟩ | ⟨rfl, tl, e, bad, hw, hm, hk', hx⟩
  · have he : p.1 ≠ 0 := h.flt _ rfl
    have fe : (p.1 != 0) = true := by rw [bne_iff_ne]; exact he
    replace k2 : w.cell? ⟨b, 2, none⟩ = some (.int .i64 p.1) := k2
    clear h he
    go_enter Try.func27, Try.ntmps27
    go_wp2
    go_ret
    exact ⟨rfl, H.out, Kep.refl _ _⟩
  replace k2 : w.cell? ⟨b, 2, none⟩ = some (.int .i64 0) := k2
  have hkn : k' ≤ n := by rw [← h.sl.len]; exact hk'
  have G := Lib.hid (fun w' (hb : Bel w w') => (ref_get A n c zs k x tl e bad w' (h.sl.bel hb).ints (by have := h.len; omega) h.bytes hw).mono (R' := fun r w1 => r = .returned (got x tl e bad) ∧ Bel w' w1 ∧ w1.cell? ⟨b, 0, none⟩ = some (.slice A n c) ∧ w1.cell? ⟨b, 1, none⟩ = some (.int .i64 (k : Int))) fun r w1 hr => ⟨hr.1, hr.2, (h.blk.bel (hb.trans hr.2)).cell 0 rfl, (h.blk.bel (hb.trans hr.2)).cell 1 rfl⟩)
  have c0 : w.cell? ⟨b, 0, none⟩ = some (.slice A n c) := h.blk.cell 0 rfl
  have c1 : w.cell? ⟨b, 1, none⟩ = some (.int .i64 (k : Int)) := h.blk.cell 1 rfl
  have n1 := World.new_ne w _ c1
  have D := Lib.hid (laid w 32)
  clear h hw hk'
  go_enter Try.func27, Try.ntmps27
  go_upto_region 3 with fail
  go_cut [3, 4, 5] (fun s3 s4 s5 wx => ∃ g : Nat, s3 = .int .u64 x ∧ s4 = .int .i64 tl ∧ s5 = .pointer (some ⟨g, 0, none⟩) ∧ w.heap.size ≤ g ∧ Blk wx g #[.int .i64 e, .int .i64 bad] 32 ∧ Bel w wx)
  case first =>
    go_region_held3 (fun w' => w'.cell? ⟨b, 0, none⟩ = some (.slice A n c) ∧ w'.cell? ⟨b, 1, none⟩ = some (.int .i64 (k : Int))) (go_keep)
      (first | (go_at_call 47; first | (refine (G.out _ ?_).mono ?_; exact ((Bel.refl _).alloc _).drew; rintro r w1 ⟨rfl, hb1, k1, k2⟩; obtain ⟨d0, d1, d2, d3, dB⟩ := D.out w1 hb1; have hb2 : Bel w w1 := (((Bel.refl _).alloc _).drew).trans hb1; have hbig := Below.size hb1; clear hb1) | (refine (G.out _ ?_).mono ?_; exact (Bel.refl _).drew; rintro r w1 ⟨rfl, hb1, k1, k2⟩; have hb2 : Bel w w1 := (Bel.refl _).drew.trans hb1; clear hb1)))
    all_goals (go_wp2_with fail; go_meet; first | exact ⟨w1.heap.size, rfl, rfl, rfl, Below.size hb2, Blk.new _ _ _, hb2.alloc _⟩ | exact ⟨w.heap.size, rfl, rfl, rfl, Nat.le_refl _, (dB.out.set 0 _).set 1 _, (hb2.set (Nat.le_refl _) _).set (Nat.le_refl _) _⟩)
  case rest =>
    obtain ⟨g, rfl, rfl, rfl, hg, hG, hbel⟩ := hcut
    have HB := Lib.hid hbel
    have HR := Lib.hid (H.out.bel hbel)
    have g0 : wc.cell? ⟨g, 0, none⟩ = some (.int .i64 e) := hG.cell 0 rfl
    have g1 : wc.cell? ⟨g, 1, none⟩ = some (.int .i64 bad) := hG.cell 1 rfl
    clear hG hbel c0 c1 n1 k2
    rcases hm with ⟨rfl, rfl, rfl⟩ | ⟨he, rfl, rfl⟩
    · have k1 : wc.cell? ⟨b, 1, none⟩ = some (.int .i64 (k : Int)) := HR.out.blk.cell 1 rfl
      have f1 := HR.out.blk.frozen 1
      go_wp2
      go_ret
      exact ⟨rfl, (HR.out.turn ((Kep.refl _ _).set_self 1 _) (HR.out.blk.set 1 _) hkn (fun q hq => by cases hq)), (Kep.of_bel HB.out).set_self _ _⟩
    · have k2 : wc.cell? ⟨b, 2, none⟩ = some (.int .i64 0) := HR.out.blk.cell 2 rfl
      have k3 : wc.cell? ⟨b, 3, none⟩ = some (.int .i64 0) := HR.out.blk.cell 3 rfl
      have f2 := HR.out.blk.frozen 2
      have f3 := HR.out.blk.frozen 3
      have fe : (e != 0) = true := by rw [bne_iff_ne]; exact he
      have HE := Lib.hid he
      have HX := Lib.hid (hx he)
      clear he hx
      go_wp2
      go_ret
      exact ⟨by rw [HX.out]; rfl, HR.out.turn (((Kep.refl _ _).set_self 2 _).set_self 3 _) ((HR.out.blk.set 2 _).set 3 _) HR.out.le (fun q hq => by cases hq; exact HE.out), ((Kep.of_bel HB.out).set_self _ _).set_self _ _⟩
end Cd
end Go.Proofs.Ytgalhpejihmhkaa
end

section
/-
  What the reference's reader answers: N.
  Conditions: the reader is one that the reference's NewReader made of at most 10^6 bytes.
-/
namespace Go.Proofs.Ytgalhpejihmhkaa
open Go.RowKit Go.Shelf
set_option linter.unusedVariables false
namespace Cd

/-- As QS; where a fault stands the place is left open. -/
def QT (w : World) (b : Nat) (A : Option Addr) (n c : Nat) (zs : List Int) (k : Nat) (f : Option (Int × Int)) : Prop := ∃ k2, QS w b A n c zs k2 f ∧ (f = none → k2 = k)
theorem QT.bel {w w' : World} {b : Nat} {A : Option Addr} {n c : Nat} {zs : List Int} {k : Nat} {f : Option (Int × Int)} (h : QT w b A n c zs k f) (hk : Bel w w') : QT w' b A n c zs k f := by
  obtain ⟨k2, h1, h2⟩ := h
  exact ⟨k2, h1.bel hk, h2⟩
theorem QT.kep {S : Nat → Prop} {w w' : World} {b : Nat} {A : Option Addr} {n c : Nat} {zs : List Int} {k : Nat} {f : Option (Int × Int)} (h : QT w b A n c zs k f) (hk : Kep S w w') (h1 : ¬ S b) (h2 : 0 < n → ∀ x : Addr, A = some x → ¬ S x.block) : QT w' b A n c zs k f := by
  obtain ⟨k2, h3, h4⟩ := h
  exact ⟨k2, h3.kep hk h1 h2, h4⟩
theorem atOf_some (k k2 : Nat) {f : Option (Int × Int)} (h : f = none → k2 = k) : atOf k2 f = atOf k f := by
  cases f with
  | none => rw [h rfl]
  | some q => rfl
theorem leftOf_some (n k k2 : Nat) {f : Option (Int × Int)} (h : f = none → k2 = k) : leftOf n k2 f = leftOf n k f := by
  cases f with
  | none => rw [h rfl]
  | some q => rfl
theorem endOf_some (n k k2 : Nat) {f : Option (Int × Int)} (h : f = none → k2 = k) : endOf n k2 f = endOf n k f := by
  cases f with
  | none => rw [h rfl]
  | some q => rfl
theorem tEnd (b : Nat) (A : Option Addr) (n c : Nat) (zs : List Int) (k : Nat) (f : Option (Int × Int)) (w : World) (h : QT w b A n c zs k f) :
    Calls Try.prog 28 #[.pointer (some ⟨b, 0, none⟩)] w fun r w' => r = .returned (fault (endOf zs.length k f)) ∧ Bel w w' := by
  obtain ⟨k2, h1, h2⟩ := h
  rw [← endOf_some _ k k2 h2]
  exact qEnd b A n c zs k2 f w h1
theorem tFail (b : Nat) (A : Option Addr) (n c : Nat) (zs : List Int) (k : Nat) (f : Option (Int × Int)) (e p : Int) (w : World) (h : QT w b A n c zs k f) :
    Calls Try.prog 45 #[.pointer (some ⟨b, 0, none⟩), .int .i64 e, .int .i64 p] w fun r w' => r = .returned (.tuple #[]) ∧ QT w' b A n c zs k (failOf f e p) ∧ Kep (fun i => i = b) w w' := by
  obtain ⟨k2, h1, h2⟩ := h
  refine (qFail b A n c zs k2 f e p w h1).mono fun r w' hr => ⟨hr.1, ⟨k2, hr.2.1, fun hn => h2 ?_⟩, hr.2.2⟩
  cases f with
  | none => rfl
  | some q => unfold failOf at hn; split at hn <;> cases hn
theorem tU (b : Nat) (A : Option Addr) (n c : Nat) (zs : List Int) (k : Nat) (f : Option (Int × Int)) (x : Int) (k' : Nat) (f' : Option (Int × Int)) (w : World) (h : QT w b A n c zs k f) (hr : RU zs k f x k' f') :
    Calls Try.prog 27 #[.pointer (some ⟨b, 0, none⟩)] w fun r w' => r = .returned (.int .u64 x) ∧ QT w' b A n c zs k' f' ∧ Kep (fun i => i = b) w w' := by
  obtain ⟨k2, h1, h2⟩ := h
  rcases hr with ⟨p, rfl, rfl, rfl, rfl⟩ | ⟨rfl, hr⟩
  · exact (qU b A n c zs k2 (some p) 0 k2 (some p) w h1 (.inl ⟨p, rfl, rfl, rfl, rfl⟩)).mono fun r w' hr => ⟨hr.1, ⟨k2, hr.2.1, fun h => by cases h⟩, hr.2.2⟩
  · obtain rfl := h2 rfl
    exact (qU b A n c zs k2 none x k' f' w h1 (.inr ⟨rfl, hr⟩)).mono fun r w' hr => ⟨hr.1, ⟨k', hr.2.1, fun _ => rfl⟩, hr.2.2⟩

theorem way_zero {zs : List Int} {k x tl e bad : Int} (h : Way zs k x tl e bad) (he : e ≠ 0) : x = 0 := by
  rcases h with ⟨_, h, _⟩ | ⟨_, _, _, h, _⟩ | ⟨_, _, _, _, _, _, _, _, _, _, _, h, _⟩
  · exact h
  · exact h
  · exact absurd h he
theorem way_to {zs : List Int} {k x tl bad : Int} (h : Way zs k x tl 0 bad) : ∃ t : Nat, tl = t ∧ t ≤ zs.length := by
  rcases h with ⟨_, _, _, h, _⟩ | ⟨_, _, _, _, _, _, h⟩ | ⟨k, j, _, _, h, _, _, _, _, _, h2, _⟩
  · omega
  · rcases h with ⟨h, _⟩ | ⟨h, _⟩ | ⟨h, _⟩ <;> omega
  · exact ⟨k + j + 1, by omega, by omega⟩

set_option maxRecDepth 100000 in
set_option maxHeartbeats 2000000 in
theorem tN (b : Nat) (A : Option Addr) (n c : Nat) (zs : List Int) (k : Nat) (f : Option (Int × Int)) (least most x : Int) (k' : Nat) (f' : Option (Int × Int)) (w : World) (h : QT w b A n c zs k f) (hr : RN zs k f least most x k' f') (l1 : least ≤ 9223372036854775807) (m1 : most ≤ 9223372036854775807) :
    Calls Try.prog 25 #[.pointer (some ⟨b, 0, none⟩), .int .i64 least, .int .i64 most] w fun r w' => r = .returned (.int .i64 x) ∧ QT w' b A n c zs k' f' ∧ Kep (fun i => i = b) w w' := by
  obtain ⟨k2, hq, h2⟩ := h
  have k1 : w.cell? ⟨b, 1, none⟩ = some (.int .i64 (k2 : Int)) := hq.blk.cell 1 rfl
  rcases hr with ⟨p, rfl, rfl, rfl, rfl⟩ | ⟨rfl, tl, e, bad, ⟨x0, t0, e0, b0, hw, h0, h1, hcs⟩, hm, hk', hx⟩
  · have U := Lib.hid (qU b A n c zs k2 (some p) 0 k2 (some p) w hq (.inl ⟨p, rfl, rfl, rfl, rfl⟩))
    have he : p.1 ≠ 0 := hq.flt _ rfl
    have fe : (p.1 != 0) = true := by rw [bne_iff_ne]; exact he
    have fe2 : (p.1 == 0) = false := by rw [beq_eq_false_iff_ne]; exact he
    clear hq h2 he
    go_enter Try.func25, Try.ntmps25
    go_wp2_with fail
    refine (U.out).mono ?_
    rintro r w1 ⟨rfl, hq, hk⟩
    have c2 : w1.cell? ⟨b, 2, none⟩ = some (.int .i64 p.1) := hq.blk.cell 2 rfl
    have HQ := Lib.hid hq
    have HK := Lib.hid hk
    clear hq hk
    go_wp2
    go_ret
    exact ⟨rfl, ⟨k2, HQ.out, fun h => by cases h⟩, HK.out⟩
  obtain rfl := h2 rfl
  clear h2
  rcases hcs with ⟨he, rfl, rfl, rfl, rfl⟩ | ⟨rfl, hx0, rfl, rfl, rfl, rfl⟩ | ⟨rfl, hx1, hx2, rfl, rfl, rfl, rfl⟩
  · obtain ⟨h, _⟩ | ⟨_, rfl, rfl⟩ := hm
    · exact absurd h he
    have U := Lib.hid (qU b A n c zs k' none x0 k' (some (e, bad)) w hq (.inr ⟨rfl, _, _, _, hw, .inr ⟨he, rfl, rfl⟩, hk', way_zero hw⟩))
    have fe : (e != 0) = true := by rw [bne_iff_ne]; exact he
    have fe2 : (e == 0) = false := by rw [beq_eq_false_iff_ne]; exact he
    clear hq he hw hx hk'
    go_enter Try.func25, Try.ntmps25
    go_wp2_with fail
    refine (U.out).mono ?_
    rintro r w1 ⟨rfl, hq, hk⟩
    have c2 : w1.cell? ⟨b, 2, none⟩ = some (.int .i64 e) := hq.blk.cell 2 rfl
    have HQ := Lib.hid hq
    have HK := Lib.hid hk
    clear hq hk
    go_wp2
    go_ret
    exact ⟨rfl, ⟨k', HQ.out, fun h => by cases h⟩, HK.out⟩
  · obtain ⟨h, _⟩ | ⟨_, rfl, rfl⟩ := hm
    · exact absurd h (by decide)
    obtain ⟨t, rfl, ht⟩ := way_to hw
    have U := Lib.hid (qU b A n c zs k' none x0 t none w hq (.inr ⟨rfl, _, _, _, hw, .inl ⟨rfl, rfl, rfl⟩, ht, fun h => absurd rfl h⟩))
    have hcs : (most < 0 ∧ x0 ≤ 0 ∧ max most 0 = 0) ∨ (most < 0 ∧ 0 < x0 ∧ max most 0 = 0) ∨ (0 ≤ most ∧ most < x0 ∧ max most 0 = most) ∨ (0 ≤ most ∧ x0 ≤ most ∧ 0 < least ∧ x0 < least ∧ max most 0 = most) := by omega
    clear hq hw hx hk' hx0
    rcases hcs with ⟨g1, g2, e1⟩ | ⟨g1, g2, e1⟩ | ⟨g1, g2, e1⟩ | ⟨g1, g2, g3, g4, e1⟩
    all_goals
      go_enter Try.func25, Try.ntmps25
      go_wp2_with fail
      refine (U.out).mono ?_
      rintro r w1 ⟨rfl, hq, hk⟩
      have c2 : w1.cell? ⟨b, 2, none⟩ = some (.int .i64 0) := hq.blk.cell 2 rfl
      have FL := Lib.hid (qFail b A n c zs t none 3 (k' : Int) w1 hq)
      have HK := Lib.hid hk
      clear hq hk
      go_wp2_with fail
      refine (FL.out).mono ?_
      rintro r w2 ⟨rfl, hq, hk⟩
      have hq : QS w2 b A n c zs t (some (3, (k' : Int))) := hq
      have c2 : w2.cell? ⟨b, 2, none⟩ = some (.int .i64 3) := hq.blk.cell 2 rfl
      have HQ := Lib.hid hq
      have HK2 := Lib.hid (HK.out.trans hk)
      clear hq hk
      go_wp2
      go_ret
      exact ⟨rfl, ⟨t, HQ.out, fun h => by cases h⟩, HK2.out⟩
  · obtain ⟨_, rfl, rfl⟩ | ⟨h, _⟩ := hm
    · have U := Lib.hid (qU b A n c zs k2 none x k' none w hq (.inr ⟨rfl, _, _, _, hw, .inl ⟨rfl, rfl, rfl⟩, hk', hx⟩))
      have m0 : 0 ≤ most := by omega
      have g1 : x ≤ most := hx2
      have e1 : max most 0 = most := by omega
      clear hq hw
      go_enter Try.func25, Try.ntmps25
      go_wp2_with fail
      refine (U.out).mono ?_
      rintro r w1 ⟨rfl, hq, hk⟩
      have c2 : w1.cell? ⟨b, 2, none⟩ = some (.int .i64 0) := hq.blk.cell 2 rfl
      have HQ := Lib.hid hq
      have HK := Lib.hid hk
      clear hq hk
      go_wp2
      all_goals
        go_ret
        exact ⟨rfl, ⟨k', HQ.out, fun _ => rfl⟩, HK.out⟩
    · exact absurd rfl h
end Cd
end Go.Proofs.Ytgalhpejihmhkaa
end

section
/-
  What the reference's reader answers: take, Blob.
  Conditions: the reader is one that the reference's NewReader made of at most 10^6 bytes.
-/
namespace Go.Proofs.Ytgalhpejihmhkaa
open Go.RowKit Go.Shelf
set_option linter.unusedVariables false
namespace Cd

theorem head_sl (A : Option Addr) (n c k m : Nat) (zs : List Int) (w : World) (hi : Sl w A n c zs) (hk : k + m ≤ n) :
    ∃ A', (∀ w' : World, (Instr.slice 22 (.slice A n c) (some (.int .i64 (k : Int))) (some (.int .i64 ((k : Int) + (m : Int)))) none).run Try.prog w' = .ok (.slice A' m (c - k)) w') ∧ Sl w A' m (c - k) ((zs.drop k).take m) := by
  have hc := hi.cap
  refine ⟨if c = k then A else A.map (·.add (k * 1)), fun w' => ?_, hi.ints.part hk hc, by omega, fun h => ?_⟩
  · have h := slice_lh A n c k ((k : Int) + (m : Int)) w' (by omega) (by omega) (by omega)
    rw [show ((k : Int) + (m : Int)).toNat = k + m by omega] at h
    simp only [Int.toNat_natCast, Nat.add_sub_cancel_left] at h
    exact h
  · by_cases e : c = k
    · omega
    · rw [if_neg e] at h
      cases A with
      | none => have := hi.nil rfl; omega
      | some x => cases h

set_option maxRecDepth 100000 in
theorem take_fault (b : Nat) (A : Option Addr) (n c : Nat) (zs : List Int) (k : Nat) (p : Int × Int) (m from_ : Int) (w : World) (h : QS w b A n c zs k (some p)) :
    Calls Try.prog 46 #[.pointer (some ⟨b, 0, none⟩), .int .i64 m, .int .i64 from_] w fun r w' => r = .returned (.slice none 0 0) ∧ QS w' b A n c zs k (some p) ∧ Kep (fun i => i = b) w w' := by
  have H := Lib.hid h
  have c2 : w.cell? ⟨b, 2, none⟩ = some (.int .i64 p.1) := h.blk.cell 2 rfl
  have he : p.1 ≠ 0 := h.flt _ rfl
  have fe : (p.1 != 0) = true := by rw [bne_iff_ne]; exact he
  have fe2 : (p.1 == 0) = false := by rw [beq_eq_false_iff_ne]; exact he
  clear h he
  go_enter Try.func46, Try.ntmps46
  go_wp2_with fail
  go_quiet (fail)
  go_wp2
  go_ret
  exact ⟨rfl, H.out.bel ((Bel.refl _).drewN _), Kep.of_bel ((Bel.refl _).drewN _)⟩
set_option maxRecDepth 100000 in
theorem take_short (b : Nat) (A : Option Addr) (n c : Nat) (zs : List Int) (k : Nat) (m : Nat) (from_ : Int) (w : World) (h : QS w b A n c zs k none) (hs : n < k + m) :
    Calls Try.prog 46 #[.pointer (some ⟨b, 0, none⟩), .int .i64 (m : Int), .int .i64 from_] w fun r w' => r = .returned (.slice none 0 0) ∧ QS w' b A n c zs k (some (6, from_)) ∧ Kep (fun i => i = b) w w' := by
  have c0 : w.cell? ⟨b, 0, none⟩ = some (.slice A n c) := h.blk.cell 0 rfl
  have c1 : w.cell? ⟨b, 1, none⟩ = some (.int .i64 (k : Int)) := h.blk.cell 1 rfl
  have c2 : w.cell? ⟨b, 2, none⟩ = some (.int .i64 0) := h.blk.cell 2 rfl
  have h1 := h.len
  have h2 := h.le
  have e1 : IntKind.i64.wrap ((n : Int) - (k : Int)) = (n : Int) - (k : Int) := IntWalk.i64_in _ (by omega)
  have g : (n : Int) - (k : Int) < (m : Int) := by omega
  have FL := Lib.hid (fun w' (hb : Bel w w') => qFail b A n c zs k none 6 from_ w' (h.bel hb))
  clear h
  go_enter Try.func46, Try.ntmps46
  go_wp2_with fail
  go_quiet (fail)
  go_wp2_with fail
  refine (FL.out _ ((Bel.refl _).drewN _)).mono ?_
  rintro r w2 ⟨rfl, hq, hk⟩
  have hq : QS w2 b A n c zs k (some (6, from_)) := hq
  have c2 : w2.cell? ⟨b, 2, none⟩ = some (.int .i64 6) := hq.blk.cell 2 rfl
  have HQ := Lib.hid hq
  have HK := Lib.hid ((Kep.of_bel (S := fun i => i = b) ((Bel.refl w).drewN _)).trans hk)
  clear hq hk
  go_wp2
  go_ret
  exact ⟨rfl, HQ.out, HK.out⟩
set_option maxRecDepth 100000 in
set_option maxHeartbeats 1000000 in
theorem take_ok (b : Nat) (A : Option Addr) (n c : Nat) (zs : List Int) (k : Nat) (m : Nat) (from_ : Int) (w : World) (h : QS w b A n c zs k none) (hs : k + m ≤ n) :
    Calls Try.prog 46 #[.pointer (some ⟨b, 0, none⟩), .int .i64 (m : Int), .int .i64 from_] w fun r w' => ∃ v, r = .returned v ∧ w'.ownsRow w.heap.size 5 1 v m (((zs.drop k).take m).map (Value.int .u8)) ∧ QS w' b A n c zs (k + m) none ∧ Kep (fun i => i = b) w w' := by
  have c0 : w.cell? ⟨b, 0, none⟩ = some (.slice A n c) := h.blk.cell 0 rfl
  have c1 : w.cell? ⟨b, 1, none⟩ = some (.int .i64 (k : Int)) := h.blk.cell 1 rfl
  have c2 : w.cell? ⟨b, 2, none⟩ = some (.int .i64 0) := h.blk.cell 2 rfl
  have H := Lib.hid h
  have h1 := h.len
  have h2 := h.le
  have hbl := h.blk.lt
  have e1 : IntKind.i64.wrap ((n : Int) - (k : Int)) = (n : Int) - (k : Int) := IntWalk.i64_in _ (by omega)
  have e2 : IntKind.i64.wrap ((k : Int) + (m : Int)) = (k : Int) + (m : Int) := IntWalk.i64_in _ (by omega)
  have g : (m : Int) ≤ (n : Int) - (k : Int) := by omega
  have hlen : ((zs.drop k).take m).length = m := by have := h.sl.len; simp; omega
  obtain ⟨A2, hsl, hs3⟩ := head_sl A n c k m zs w h.sl hs
  have G := Lib.hid (fun w' (hb : Bel w w') => (copyBytes A2 m (c - k) _ w' (hs3.bel hb) (by omega)).mono (R' := fun r w1 => ∃ v, r = .returned v ∧ Bel w' w1 ∧ Hid (w1.ownsRow w'.heap.size 5 1 v m (((zs.drop k).take m).map (Value.int .u8))) ∧ w1.cell? ⟨b, 0, none⟩ = some (.slice A n c) ∧ w1.cell? ⟨b, 1, none⟩ = some (.int .i64 (k : Int))) fun r w1 ⟨v, hr1, hr2⟩ => ⟨v, hr1, hr2.2, by have := hr2.1; rw [hlen] at this; exact this, (h.blk.bel (hb.trans hr2.2)).cell 0 rfl, (h.blk.bel (hb.trans hr2.2)).cell 1 rfl⟩)
  have hs2 := hs
  clear h hs3 hs
  go_enter Try.func46, Try.ntmps46
  go_wp2_with fail
  go_quiet (fail)
  go_upto_region 5 with fail
  go_region_held3 (fun w' => w'.cell? ⟨b, 0, none⟩ = some (.slice A n c) ∧ w'.cell? ⟨b, 1, none⟩ = some (.int .i64 (k : Int))) (go_keep)
    (first | (go_at_call 44; refine (G.out _ ?_).mono ?_; exact ((Bel.refl _).drewN _).drew; rintro r w1 ⟨v, rfl, hb1, hu, k1, k2⟩; have hb2 : Bel w w1 := (((Bel.refl w).drewN _).drew).trans hb1; clear hb1))
  all_goals
    have HU := Lib.hid (owns_mono hu.out (show w.heap.size ≤ (w.drewN nq).drew.heap.size by simp))
    have HB := Lib.hid hb2
    have HR := Lib.hid (H.out.bel hb2)
    have hne := Lib.hid (own_ne HU.out hbl)
    have f1 := HR.out.blk.frozen 1
    clear hu hb2
    go_wp2
    go_ret
    exact ⟨v, rfl, owns_set HU.out hne.out 1 _, HR.out.turn ((Kep.refl _ _).set_self 1 _) (HR.out.blk.set 1 _) hs2 (fun q hq => by cases hq), (Kep.of_bel HB.out).set_self _ _⟩
end Cd
end Go.Proofs.Ytgalhpejihmhkaa
end

section
/-
  What the reference's reader answers: Blob.
  Conditions: the reader is one that the reference's NewReader made of at most 10^6 bytes.
-/
namespace Go.Proofs.Ytgalhpejihmhkaa
open Go.RowKit Go.Shelf
set_option linter.unusedVariables false
namespace Cd

theorem own_nil (w : World) (base : Nat) : w.ownsRow base 5 1 (.slice none 0 0) ([] : List Int).length (([] : List Int).map (Value.int .u8)) := World.ownsRow_nil _ _ _ _

end Cd
end Go.Proofs.Ytgalhpejihmhkaa
end

section
/-
  What the reference's reader answers: Hash.
  Conditions: the reader is one that the reference's NewReader made of at most 10^6 bytes.
-/
namespace Go.Proofs.Ytgalhpejihmhkaa
open Go.RowKit Go.Shelf
set_option linter.unusedVariables false
namespace Cd

theorem own_block_ge' {w : World} {base : Nat} {v : Value} {n : Nat} {xs : List Value} (h : w.ownsRow base 5 1 v n xs) : ∀ q, v.ownBlock = some q → base ≤ q := fun q hq => (h.lt q hq).1
theorem kep_past {S T : Nat → Prop} {w w2 w3 : World} (h : Kep S w w2) (h3 : Kep T w2 w3) (hT : ∀ i, T i → w.heap.size ≤ i) : Kep S w w3 :=
  ⟨h3.os.trans h.os, h3.tape.trans h.tape, h3.output.trans h.output, Nat.le_trans h.size h3.size, fun i hi hs => (h3.block i (Nat.lt_of_lt_of_le hi h.size) (fun ht => absurd (hT i ht) (by omega))).trans (h.block i hi hs)⟩
/-- Zeroes, the first j of them written over. -/
def mix (ys : List Int) : Nat → Array Value
  | 0 => Z32
  | j + 1 => (mix ys j).setIfInBounds j (.int .u8 (ys.getD j 0))
theorem mix_size (ys : List Int) : ∀ j, (mix ys j).size = 32
  | 0 => rfl
  | j + 1 => by rw [mix, Array.size_setIfInBounds, mix_size ys j]
theorem mix_get (ys : List Int) (i : Nat) (hi : i < 32) : ∀ j, (mix ys j)[i]? = some (.int .u8 (if i < j then ys.getD i 0 else 0))
  | 0 => by
    show Z32[i]? = _
    rw [z32, List.getElem?_toArray, List.getElem?_map, List.getElem?_replicate]
    simp [hi]
  | j + 1 => by
    rw [mix, Array.getElem?_setIfInBounds, mix_size, mix_get ys i hi j]
    by_cases e : j = i
    · subst e
      simp [hi]
    · rw [if_neg e]
      by_cases h : i < j
      · rw [if_pos h, if_pos (by omega)]
      · rw [if_neg h, if_neg (by omega)]
theorem mix_full (ys : List Int) (h : ys.length = 32) : mix ys 32 = (ys.map (Value.int .u8)).toArray := by
  apply Array.ext_getElem?
  intro i
  rcases Nat.lt_or_ge i 32 with hi | hi
  · rw [mix_get ys i hi 32, if_pos hi, List.getElem?_toArray, List.getElem?_map, List.getElem?_eq_getElem (by omega), getD_eq _ _ (by omega)]
    rfl
  · rw [Array.getElem?_eq_none (by rw [mix_size]; exact hi), Array.getElem?_eq_none (by simp; omega)]

set_option maxRecDepth 100000 in
set_option maxHeartbeats 2000000 in
theorem tHash_ (b : Nat) (A : Option Addr) (n c : Nat) (zs : List Int) (kk : Int) (k' : Nat) (f' : Option (Int × Int)) (hs ys : List Int) (w : World)
    (TK : ∀ w', Bel w w' → Calls Try.prog 46 #[.pointer (some ⟨b, 0, none⟩), .int .i64 32, .int .i64 kk] w' fun r w1 => ∃ v, r = .returned v ∧ w1.ownsRow w'.heap.size 5 1 v ys.length (ys.map (Value.int .u8)) ∧ QT w1 b A n c zs k' f' ∧ Kep (fun i => i = b) w' w1)
    (hk : w.cell? ⟨b, 1, none⟩ = some (.int .i64 kk)) (hbl : b < w.heap.size) (hA : 0 < n → ∀ x : Addr, A = some x → x.block < w.heap.size) (hlen : ys.length ≤ 32) (hm : mix ys ys.length = (hs.map (Value.int .u8)).toArray) (hl : hs.length = 32) :
    Calls Try.prog 26 #[.pointer (some ⟨b, 0, none⟩)] w fun r w' => r = .returned (hash hs) ∧ QT w' b A n c zs k' f' ∧ Kep (fun i => i = b) w w' := by
  obtain ⟨Y, hY⟩ : ∃ Y, hs.map (Value.int .u8) = Y := ⟨_, rfl⟩
  have EY := Lib.hid (show hash hs = .agg Y.toArray by rw [← hY])
  have YL : Y.length = 32 := by rw [← hY, List.length_map]; exact hl
  have hz : Y.toArray.size = 32 := by simp [YL]
  have HO := Lib.hid (all_oneCell_toArray (show ∀ v ∈ Y, v.oneCell' = true by rw [← hY]; exact ints_ok _))
  have HI := Lib.hid (show (Try.prog.info? 26).map (·.size) = some Y.length by rw [YL]; exact info_hash)
  have HI2 := Lib.hid (show (Try.prog.info? 26).map (·.size) = some Y.toArray.size by rw [hz]; exact info_hash)
  have HM := Lib.hid (show mix ys ys.length = Y.toArray by rw [hm, hY])
  have HZ := Lib.hid hz
  have HYL := Lib.hid YL
  have hAW := ((Bel.refl w).alloc ZO).alloc ZO
  obtain ⟨W, hW⟩ : ∃ W, (w.alloc ZO).alloc ZO = W := ⟨_, rfl⟩
  rw [hW] at hAW
  have HA := Lib.hid hAW
  have hWs : W.heap.size = w.heap.size + 2 := by rw [← hW]; simp
  have B2 := Lib.hid (show Blk W w.heap.size Z32 26 by rw [← hW]; exact (Blk.new w _ _).alloc _)
  have B3 := Lib.hid (show Blk W (w.heap.size + 1) Z32 26 by
    rw [← hW]
    have := Blk.new (w.alloc ZO) Z32 26
    rwa [World.size_alloc] at this)
  have c1 : W.cell? ⟨b, 1, none⟩ = some (.int .i64 kk) := bel_cell hAW hk
  have T := Lib.hid (TK W hAW)
  clear hk hm hl hY YL hz TK hAW
  rw [EY.out]
  go_enter Try.func26, Try.ntmps26
  go_wp2_with fail
  refine (T.out).mono ?_
  rintro r w1 ⟨v, rfl, ho, hq, hk⟩

  obtain ⟨A2, c2, hv, hs2⟩ := sl_of_own ho
  have hub : ∀ x : Addr, A2 = some x → W.heap.size ≤ x.block := by subst hv; exact own_block_ge ho
  subst hv
  have HS := Lib.hid hs2
  have HUB := Lib.hid hub
  have HQ := Lib.hid hq
  have HK := Lib.hid hk
  have C2 := Lib.hid (B2.out.kep hk (Nat.ne_of_gt hbl))
  have C3 := Lib.hid (B3.out.kep hk (by omega))
  obtain ⟨L, hL⟩ : ∃ L, ys.length = L := ⟨_, rfl⟩
  rw [hL] at hlen HM ⊢
  have HL := Lib.hid hL
  clear ho hq hk hs2 hub c1 hL
  have hlen' : (L : Int) ≤ 32 := by omega
  go_wp2_with fail
  go_loopw [5] (fun i wr => ∃ j : Nat, j ≤ L ∧ i = .int .i64 j ∧ Hid (Blk wr (w.heap.size + 1) (mix ys j) 26) ∧ Hid (Kep (fun i => i = w.heap.size + 1) w1 wr)) (fun i _ => L - (intOf i).toNat)
  case atStart => exact ⟨0, Nat.zero_le _, rfl, C3.out, Kep.refl _ _⟩
  case round =>
    obtain ⟨j, hj, rfl, HB, HKr⟩ := hrel
    by_cases hlt : j < L
    · obtain ⟨b1, o1, hA2, hb1, hc1⟩ := HS.out.ints.2 (by have := HL.out; omega)
      have hne : ¬ b1 = w.heap.size + 1 := by have := HUB.out _ hA2; simp only at this; omega
      have hx := HKr.out.cell hne (hc1 j (by have := HL.out; omega))
      subst hA2
      have kx : wr.cell? ⟨w.heap.size + 1, j, none⟩ = some (.int .u8 0) := HB.out.cell j (by rw [mix_get ys j (by omega) j, if_neg (by omega)])
      have fx := HB.out.frozen j
      have g3 : (j : Int) < (L : Int) := by omega
      have g4 : (j : Int) < 32 := by omega
      have g5 : (0 : Int) ≤ (j : Int) := by omega
      have HN := Lib.hid (show Blk (wr.setCell ⟨w.heap.size + 1, j, none⟩ (.int .u8 (ys.getD j 0))) (w.heap.size + 1) (mix ys (j + 1)) 26 from HB.out.set j _)
      have HN2 := Lib.hid (show Kep (fun i => i = w.heap.size + 1) w1 (wr.setCell ⟨w.heap.size + 1, j, none⟩ (.int .u8 (ys.getD j 0))) from HKr.out.set_self j _)
      clear hc1
      generalize ys.getD j 0 = z at hx HN HN2
      go_wp2
      go_roundw
      case rel => exact ⟨j + 1, by omega, by go_num, HN.out, HN2.out⟩
      case measure => simp [intOf]; omega
    · obtain rfl : j = L := by omega
      have RG := Lib.hid (show wr.rangeAt (w.heap.size + 1) 0 Y from fun i v hv => by
        rw [Nat.zero_add]
        exact HB.out.cell i (by rw [HM.out]; simpa using hv))
      have TH := Lib.hid (show wr.there w.heap.size 0 Y.toArray.size by
        rw [HZ.out]
        exact blk_there (C2.out.kep HKr.out (by omega)) (Nat.le_refl _))
      go_wp2_with (first | (refine wpList_load_mid rfl 26 (.tmp 3) rfl (w.heap.size + 1) 0 rfl Y _ RG.out Try.underlying26 rfl HI.out ?_) | (refine wpList_store_mid rfl 26 (.tmp 2) (.tmp 24) rfl w.heap.size 0 Y.toArray rfl rfl TH.out HI2.out HO.out ?_))
      refine bodyPost_ret (results_c1 Try.results26 _ _ ⟨w.heap.size, 0, none⟩ (.agg Y.toArray) rfl (run_loadVar_mid (P := Try.prog) _ _ _ 26 Y _ (World.rangeAt_setCells_same _ _ _ _ (by have := TH.out; simpa using this)) Try.underlying26 rfl HI.out)) rfl ⟨rfl, ?_, ?_⟩
      · refine (HQ.out.kep HKr.out (by omega) (fun hn x hx => by have := hA hn x hx; omega)).kep (kep_setCells w.heap.size _ 0 wr) (Nat.ne_of_lt hbl) (fun hn x hx => by have := hA hn x hx; omega)
      · exact kep_past (kep_past ((Kep.of_bel HA.out).trans HK.out) HKr.out (fun i hi => by omega)) (kep_setCells w.heap.size _ 0 wr) (fun i hi => by omega)
end Cd
end Go.Proofs.Ytgalhpejihmhkaa
end

section
/-
  What the reference's Hash answers; what N of the program's reader without a fault answers: the reader's bytes lie where they lay.
  Conditions: readers that were made of at most 10^6 bytes.
-/
namespace Go.Proofs.Ytgalhpejihmhkaa
open Go.RowKit Go.Shelf
set_option linter.unusedVariables false
namespace Cd

theorem tHash (b : Nat) (A : Option Addr) (n c : Nat) (zs : List Int) (k : Nat) (f : Option (Int × Int)) (hs : List Int) (k' : Nat) (f' : Option (Int × Int)) (w : World) (h : QT w b A n c zs k f) (hr : RH zs k f hs k' f') (hA : 0 < n → ∀ x : Addr, A = some x → x.block < w.heap.size) :
    Calls Try.prog 26 #[.pointer (some ⟨b, 0, none⟩)] w fun r w' => r = .returned (hash hs) ∧ QT w' b A n c zs k' f' ∧ Kep (fun i => i = b) w w' := by
  obtain ⟨k2, hq, h2⟩ := h
  have k1 : w.cell? ⟨b, 1, none⟩ = some (.int .i64 (k2 : Int)) := hq.blk.cell 1 rfl
  have hzero : mix [] ([] : List Int).length = ((List.replicate 32 (0 : Int)).map (Value.int .u8)).toArray := z32
  rcases hr with ⟨p, rfl, rfl, rfl, rfl⟩ | ⟨rfl, hr⟩
  · refine tHash_ b A n c zs (k2 : Int) k' (some p) _ [] w (fun w' hb => ?_) k1 hq.blk.lt hA (by simp) hzero List.length_replicate
    exact (take_fault b A n c zs k2 p 32 (k2 : Int) w' (hq.bel hb)).mono fun r w1 hr => ⟨_, hr.1, own_nil _ _, ⟨k2, hr.2.1, fun h => by cases h⟩, hr.2.2⟩
  · obtain rfl := h2 rfl
    have hzl := hq.sl.len
    rcases hr with ⟨hk, rfl, rfl, rfl⟩ | ⟨hk, rfl, rfl, rfl⟩
    · have hlen : ((zs.drop k2).take 32).length = 32 := by simp; omega
      refine tHash_ b A n c zs (k2 : Int) (k2 + 32) none _ ((zs.drop k2).take 32) w (fun w' hb => ?_) k1 hq.blk.lt hA (by omega) (by rw [hlen]; exact mix_full _ hlen) hlen
      exact (take_ok b A n c zs k2 32 (k2 : Int) w' (hq.bel hb) (by omega)).mono fun r w1 ⟨v, h1, h2, h3, h4⟩ => ⟨v, h1, by rw [hlen]; exact h2, ⟨_, h3, fun _ => rfl⟩, h4⟩
    · refine tHash_ b A n c zs (k' : Int) k' (some (6, (k' : Int))) _ [] w (fun w' hb => ?_) k1 hq.blk.lt hA (by simp) hzero List.length_replicate
      exact (take_short b A n c zs k' 32 (k' : Int) w' (hq.bel hb) (by omega)).mono fun r w1 hr => ⟨_, hr.1, own_nil _ _, ⟨k', hr.2.1, fun h => by cases h⟩, hr.2.2⟩

end Cd
end Go.Proofs.Ytgalhpejihmhkaa
end
