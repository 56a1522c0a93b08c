/-
  Texts of this claim, put together: QRead, QRead2, QRead3. What each one says, and under which conditions, stands ahead of it.
-/
import Derived.Test.YtpohcdfmkcfonaaGreatDoorHA
import Derived.Test.YtpohcdfmkcfonaaGreatDoorGRef02b

section
/-
  What the reference's reader answers: Fail, At, Left, End, NewReader.
  Conditions: the reader is one that the reference's NewReader made of at most 10^6 bytes.
-/
namespace Go.Proofs.YtpohcdfmkcfonaaGreatDoor
open Go.RowKit Go.Shelf
set_option linter.unusedVariables false
namespace Cd

/-- A fault's error and place; none: zeroes. -/
def fE (f : Option (Int × Int)) : Int := match f with
  | some q => q.1
  | none => 0
def fP (f : Option (Int × Int)) : Int := match f with
  | some q => q.2
  | none => 0
/-- The reference's reader: where it lies, its bytes, its place, its fault. -/
structure QS (w : World) (b : Nat) (A : Option Addr) (n c : Nat) (zs : List Int) (k : Nat) (f : Option (Int × Int)) : Prop where
  blk : Blk w b #[.slice A n c, .int .i64 (k : Int), .int .i64 (fE f), .int .i64 (fP f)] 87
  sl : Sl w A n c zs
  len : n ≤ 1000000
  bytes : Bytes zs
  le : k ≤ n
  apart : 0 < n → ∀ x : Addr, A = some x → x.block ≠ b
  flt : ∀ q, f = some q → q.1 ≠ 0
theorem QS.kep {S : Nat → Prop} {w w' : World} {b : Nat} {A : Option Addr} {n c : Nat} {zs : List Int} {k : Nat} {f : Option (Int × Int)} (h : QS w b A n c zs k f) (hk : Kep S w w') (h1 : ¬ S b) (h2 : 0 < n → ∀ x : Addr, A = some x → ¬ S x.block) : QS w' b A n c zs k f := by
  refine ⟨h.blk.kep hk h1, ⟨?_, h.sl.cap, h.sl.nil⟩, h.len, h.bytes, h.le, h.apart, h.flt⟩
  rcases Nat.eq_zero_or_pos n with h0 | h0
  · exact ⟨h.sl.ints.1, fun hn => absurd hn (by omega)⟩
  · exact hk.ints (h2 h0) h.sl.ints
theorem QS.bel {w w' : World} {b : Nat} {A : Option Addr} {n c : Nat} {zs : List Int} {k : Nat} {f : Option (Int × Int)} (h : QS w b A n c zs k f) (hk : Bel w w') : QS w' b A n c zs k f :=
  h.kep (S := fun _ => False) (Kep.of_bel hk) id (fun _ _ _ => id)
/-- A block turned, all else as it was. -/
theorem QS.turn {w w' : World} {b : Nat} {A : Option Addr} {n c : Nat} {zs : List Int} {k k' : Nat} {f f' : Option (Int × Int)} (h : QS w b A n c zs k f) (hk : Kep (fun i => i = b) w w')
    (hb : Blk w' b #[.slice A n c, .int .i64 (k' : Int), .int .i64 (fE f'), .int .i64 (fP f')] 87) (hk' : k' ≤ n) (hf : ∀ q, f' = some q → q.1 ≠ 0) : QS w' b A n c zs k' f' := by
  refine ⟨hb, ⟨?_, h.sl.cap, h.sl.nil⟩, h.len, h.bytes, hk', h.apart, hf⟩
  rcases Nat.eq_zero_or_pos n with h0 | h0
  · exact ⟨h.sl.ints.1, fun hn => absurd hn (by omega)⟩
  · exact hk.ints (h.apart h0) h.sl.ints

set_option maxRecDepth 100000 in
theorem qNew (A : Option Addr) (n c : Nat) (zs : List Int) (w : World) (hs : Sl w A n c zs) (hn : n ≤ 1000000) (hb : Bytes zs) :
    Calls Tryz.prog 41 #[.slice A n c] w fun e w' => ∃ b A' c', e = .returned (.pointer (some ⟨b, 0, none⟩)) ∧ w.heap.size ≤ b ∧ QS w' b A' n c' zs 0 none ∧ (0 < n → ∀ x : Addr, A' = some x → w.heap.size ≤ x.block ∧ x.block < b) ∧ Bel w w' := by
  have CL := Lib.hid (copyBytes A n c zs w hs (by omega))
  have hl := hs.len
  clear hs
  go_enter Tryz.func41, Tryz.ntmps41
  go_wp2_with fail
  refine (CL.out).mono ?_
  rintro e w1 ⟨u, rfl, hu⟩
  obtain ⟨A', c', hv, hs'⟩ := hu.sl
  subst hv
  have b1 : Bel w w1 := hu.2
  rw [hl] at hs'
  have HS := Lib.hid hs'
  have HA : Hid (∀ x : Addr, A' = some x → w.heap.size ≤ x.block ∧ x.block < w1.heap.size) := by rintro x rfl; exact hu.1.lt _ rfl
  clear hs' hu
  have hlt1 : w.heap.size ≤ w1.heap.size := Below.size b1
  go_wp2
  go_ret
  exact ⟨w1.heap.size, A', c', rfl, hlt1, ⟨Blk.new _ _ _, HS.out.bel ((Bel.refl _).alloc _), hn, hb, Nat.zero_le _, fun _ x hx => by have := HA.out x hx; omega, fun q h => by cases h⟩, fun _ x hx => HA.out x hx, b1.alloc _⟩

set_option maxRecDepth 100000 in
theorem qFail (b : Nat) (A : Option Addr) (n c : Nat) (zs : List Int) (k : Nat) (f : Option (Int × Int)) (e p : Int) (w : World) (h : QS w b A n c zs k f) :
    Calls Tryz.prog 45 #[.pointer (some ⟨b, 0, none⟩), .int .i64 e, .int .i64 p] w fun r w' => r = .returned (.tuple #[]) ∧ QS w' b A n c zs k (failOf f e p) ∧ Kep (fun i => i = b) w w' := by
  have H := Lib.hid h
  have k2 : w.cell? ⟨b, 2, none⟩ = some (.int .i64 (fE f)) := h.blk.cell 2 rfl
  have k3 : w.cell? ⟨b, 3, none⟩ = some (.int .i64 (fP f)) := h.blk.cell 3 rfl
  have f2 := h.blk.frozen 2
  have f3 := h.blk.frozen 3
  rcases hf : f with _ | ⟨e', p'⟩
  · subst hf
    by_cases he : e = 0
    · have E := Lib.hid (show failOf none e p = none from if_pos he)
      have fe : (e != 0) = false := by rw [he]; rfl
      replace k2 : w.cell? ⟨b, 2, none⟩ = some (.int .i64 0) := k2
      clear h he
      go_enter Tryz.func45, Tryz.ntmps45
      go_wp2
      go_end0
      rw [E.out]
      exact ⟨rfl, H.out, Kep.refl _ _⟩
    · have E := Lib.hid (show failOf none e p = some (e, p) from if_neg he)
      have fe : (e != 0) = true := by rw [bne_iff_ne]; exact he
      have HE := Lib.hid he
      replace k2 : w.cell? ⟨b, 2, none⟩ = some (.int .i64 0) := k2
      replace k3 : w.cell? ⟨b, 3, none⟩ = some (.int .i64 0) := k3
      clear h he
      go_enter Tryz.func45, Tryz.ntmps45
      go_wp2
      go_end0
      rw [E.out]
      exact ⟨rfl, H.out.turn (((Kep.refl _ _).set_self 2 _).set_self 3 _) ((H.out.blk.set 2 _).set 3 _) H.out.le (fun q hq => by cases hq; exact HE.out), ((Kep.refl _ _).set_self 2 _).set_self 3 _⟩
  · have E := Lib.hid (show failOf (some (e', p')) e p = some (e', p') by unfold failOf; split <;> rfl)
    subst hf
    have he := h.flt _ rfl
    have fe : (e' == 0) = false := by rw [beq_eq_false_iff_ne]; exact he
    replace k2 : w.cell? ⟨b, 2, none⟩ = some (.int .i64 e') := k2
    clear h he
    go_enter Tryz.func45, Tryz.ntmps45
    go_wp2
    go_end0
    rw [E.out]
    exact ⟨rfl, H.out, Kep.refl _ _⟩

end Cd
end Go.Proofs.YtpohcdfmkcfonaaGreatDoor
end

section
/-
  What the reference's reader answers: End and U.
  Conditions: the reader is one that the reference's NewReader made of at most 10^6 bytes.
-/
namespace Go.Proofs.YtpohcdfmkcfonaaGreatDoor
open Go.RowKit Go.Shelf
set_option linter.unusedVariables false
namespace Cd

set_option maxRecDepth 100000 in
set_option maxHeartbeats 1000000 in
theorem qEnd (b : Nat) (A : Option Addr) (n c : Nat) (zs : List Int) (k : Nat) (f : Option (Int × Int)) (w : World) (h : QS w b A n c zs k f) :
    Calls Tryz.prog 46 #[.pointer (some ⟨b, 0, none⟩)] w fun r w' => r = .returned (fault (endOf zs.length k f)) ∧ Bel w w' := by
  have hw : Bel w (w.alloc (.cells #[.int .i64 0, .int .i64 0] 34)) := (Bel.refl w).alloc _
  have hB := h.blk.bel hw
  have k0 := hB.cell 0 rfl
  have k1 := hB.cell 1 rfl
  have k2 := hB.cell 2 rfl
  have k3 := hB.cell 3 rfl
  have hl := h.sl.len
  have h1 := h.len
  have h2 := h.le
  rcases hf : f with _ | ⟨e', p'⟩
  · subst hf
    replace k2 : (w.alloc (.cells #[.int .i64 0, .int .i64 0] 34)).cell? ⟨b, 2, none⟩ = some (.int .i64 0) := k2
    replace k3 : (w.alloc (.cells #[.int .i64 0, .int .i64 0] 34)).cell? ⟨b, 3, none⟩ = some (.int .i64 0) := k3
    by_cases hlt : k < n
    · have g : (k : Int) < (n : Int) := by omega
      have E := Lib.hid (show endOf zs.length k none = (4, (k : Int)) from if_pos (by rw [hl]; exact hlt))
      clear h hB hw
      go_enter Tryz.func46, Tryz.ntmps46
      go_wp2_with fail
      go_quiet (fail)
      go_wp2
      rw [E.out]
      refine bodyPost_ret (v := .agg #[.int .i64 4, .int .i64 (k : Int)]) (by simp [results, Tryz.results46, go_sem]) rfl ⟨rfl, ?_⟩
      first | exact ((Bel.refl _).drewN _).alloc _ | exact ((Bel.refl _).alloc _).drewN _ | exact ((((Bel.refl _).alloc _).drewN _).set (Nat.le_refl _) _).set (Nat.le_refl _) _
    · have g : (n : Int) ≤ (k : Int) := by omega
      have E := Lib.hid (show endOf zs.length k none = (0, 0) from if_neg (by rw [hl]; exact hlt))
      clear h hB hw
      go_enter Tryz.func46, Tryz.ntmps46
      go_wp2_with fail
      go_quiet (fail)
      go_wp2
      rw [E.out]
      refine bodyPost_ret (v := .agg #[.int .i64 0, .int .i64 0]) (by simp [results, Tryz.results46, go_sem]) rfl ⟨rfl, ?_⟩
      first | exact ((Bel.refl _).drewN _).alloc _ | exact ((Bel.refl _).alloc _).drewN _ | exact ((((Bel.refl _).alloc _).drewN _).set (Nat.le_refl _) _).set (Nat.le_refl _) _
  · subst hf
    have he : e' ≠ 0 := h.flt _ rfl
    have fe : (e' == 0) = false := by rw [beq_eq_false_iff_ne]; exact he
    have E := Lib.hid (show endOf zs.length k (some (e', p')) = (e', p') from rfl)
    replace k2 : (w.alloc (.cells #[.int .i64 0, .int .i64 0] 34)).cell? ⟨b, 2, none⟩ = some (.int .i64 e') := k2
    replace k3 : (w.alloc (.cells #[.int .i64 0, .int .i64 0] 34)).cell? ⟨b, 3, none⟩ = some (.int .i64 p') := k3
    clear h hB he hw
    go_enter Tryz.func46, Tryz.ntmps46
    go_wp2_with fail
    go_quiet (fail)
    go_wp2
    rw [E.out]
    refine bodyPost_ret (v := .agg #[.int .i64 e', .int .i64 p']) (by simp [results, Tryz.results46, go_sem]) rfl ⟨rfl, ?_⟩
    first | exact ((Bel.refl _).drewN _).alloc _ | exact ((Bel.refl _).alloc _).drewN _ | exact ((((Bel.refl _).alloc _).drewN _).set (Nat.le_refl _) _).set (Nat.le_refl _) _

set_option maxRecDepth 100000 in
set_option maxHeartbeats 1000000 in
theorem qU (b : Nat) (A : Option Addr) (n c : Nat) (zs : List Int) (k : Nat) (f : Option (Int × Int)) (x : Int) (k' : Nat) (f' : Option (Int × Int)) (w : World) (h : QS w b A n c zs k f) (hr : RU zs k f x k' f') :
    Calls Tryz.prog 65 #[.pointer (some ⟨b, 0, none⟩)] w fun r w' => r = .returned (.int .u64 x) ∧ QS w' b A n c zs k' f' ∧ Kep (fun i => i = b) w w' := by
  have H := Lib.hid h
  have k2 := h.blk.cell 2 rfl
  rcases hr with ⟨p, rfl, rfl, rfl, rfl⟩ | ⟨rfl, tl, e, bad, hw, hm, hk', hx⟩
  · have he : p.1 ≠ 0 := h.flt _ rfl
    have fe : (p.1 != 0) = true := by rw [bne_iff_ne]; exact he
    replace k2 : w.cell? ⟨b, 2, none⟩ = some (.int .i64 p.1) := k2
    clear h he
    go_enter Tryz.func65, Tryz.ntmps65
    go_wp2
    go_ret
    exact ⟨rfl, H.out, Kep.refl _ _⟩
  replace k2 : w.cell? ⟨b, 2, none⟩ = some (.int .i64 0) := k2
  have hkn : k' ≤ n := by rw [← h.sl.len]; exact hk'
  have G := Lib.hid (fun w' (hb : Bel w w') => (ref_get A n c zs k x tl e bad w' (h.sl.bel hb).ints (by have := h.len; omega) h.bytes hw).mono (R' := fun r w1 => r = .returned (got x tl e bad) ∧ Bel w' w1 ∧ w1.cell? ⟨b, 0, none⟩ = some (.slice A n c) ∧ w1.cell? ⟨b, 1, none⟩ = some (.int .i64 (k : Int))) fun r w1 hr => ⟨hr.1, hr.2, (h.blk.bel (hb.trans hr.2)).cell 0 rfl, (h.blk.bel (hb.trans hr.2)).cell 1 rfl⟩)
  have c0 : w.cell? ⟨b, 0, none⟩ = some (.slice A n c) := h.blk.cell 0 rfl
  have c1 : w.cell? ⟨b, 1, none⟩ = some (.int .i64 (k : Int)) := h.blk.cell 1 rfl
  have n1 := World.new_ne w _ c1
  have D := Lib.hid (laid w 34)
  clear h hw hk'
  go_enter Tryz.func65, Tryz.ntmps65
  go_upto_region 3 with fail
  go_cut [3, 4, 5] (fun s3 s4 s5 wx => ∃ g : Nat, s3 = .int .u64 x ∧ s4 = .int .i64 tl ∧ s5 = .pointer (some ⟨g, 0, none⟩) ∧ w.heap.size ≤ g ∧ Blk wx g #[.int .i64 e, .int .i64 bad] 34 ∧ Bel w wx)
  case first =>
    go_region_held3 (fun w' => w'.cell? ⟨b, 0, none⟩ = some (.slice A n c) ∧ w'.cell? ⟨b, 1, none⟩ = some (.int .i64 (k : Int))) (go_keep)
      (first | (go_at_call 84; first | (refine (G.out _ ?_).mono ?_; exact ((Bel.refl _).alloc _).drew; rintro r w1 ⟨rfl, hb1, k1, k2⟩; obtain ⟨d0, d1, d2, d3, dB⟩ := D.out w1 hb1; have hb2 : Bel w w1 := (((Bel.refl _).alloc _).drew).trans hb1; have hbig := Below.size hb1; clear hb1) | (refine (G.out _ ?_).mono ?_; exact (Bel.refl _).drew; rintro r w1 ⟨rfl, hb1, k1, k2⟩; have hb2 : Bel w w1 := (Bel.refl _).drew.trans hb1; clear hb1)))
    all_goals (go_wp2_with fail; go_meet; first | exact ⟨w1.heap.size, rfl, rfl, rfl, Below.size hb2, Blk.new _ _ _, hb2.alloc _⟩ | exact ⟨w.heap.size, rfl, rfl, rfl, Nat.le_refl _, (dB.out.set 0 _).set 1 _, (hb2.set (Nat.le_refl _) _).set (Nat.le_refl _) _⟩)
  case rest =>
    obtain ⟨g, rfl, rfl, rfl, hg, hG, hbel⟩ := hcut
    have HB := Lib.hid hbel
    have HR := Lib.hid (H.out.bel hbel)
    have g0 : wc.cell? ⟨g, 0, none⟩ = some (.int .i64 e) := hG.cell 0 rfl
    have g1 : wc.cell? ⟨g, 1, none⟩ = some (.int .i64 bad) := hG.cell 1 rfl
    clear hG hbel c0 c1 n1 k2
    rcases hm with ⟨rfl, rfl, rfl⟩ | ⟨he, rfl, rfl⟩
    · have k1 : wc.cell? ⟨b, 1, none⟩ = some (.int .i64 (k : Int)) := HR.out.blk.cell 1 rfl
      have f1 := HR.out.blk.frozen 1
      go_wp2
      go_ret
      exact ⟨rfl, (HR.out.turn ((Kep.refl _ _).set_self 1 _) (HR.out.blk.set 1 _) hkn (fun q hq => by cases hq)), (Kep.of_bel HB.out).set_self _ _⟩
    · have k2 : wc.cell? ⟨b, 2, none⟩ = some (.int .i64 0) := HR.out.blk.cell 2 rfl
      have k3 : wc.cell? ⟨b, 3, none⟩ = some (.int .i64 0) := HR.out.blk.cell 3 rfl
      have f2 := HR.out.blk.frozen 2
      have f3 := HR.out.blk.frozen 3
      have fe : (e != 0) = true := by rw [bne_iff_ne]; exact he
      have HE := Lib.hid he
      have HX := Lib.hid (hx he)
      clear he hx
      go_wp2
      go_ret
      exact ⟨by rw [HX.out]; rfl, HR.out.turn (((Kep.refl _ _).set_self 2 _).set_self 3 _) ((HR.out.blk.set 2 _).set 3 _) HR.out.le (fun q hq => by cases hq; exact HE.out), ((Kep.of_bel HB.out).set_self _ _).set_self _ _⟩
end Cd
end Go.Proofs.YtpohcdfmkcfonaaGreatDoor
end

section
/-
  What the reference's reader answers: N.
  Conditions: the reader is one that the reference's NewReader made of at most 10^6 bytes.
-/
namespace Go.Proofs.YtpohcdfmkcfonaaGreatDoor
open Go.RowKit Go.Shelf
set_option linter.unusedVariables false
namespace Cd

/-- As QS; where a fault stands the place is left open. -/
def QT (w : World) (b : Nat) (A : Option Addr) (n c : Nat) (zs : List Int) (k : Nat) (f : Option (Int × Int)) : Prop := ∃ k2, QS w b A n c zs k2 f ∧ (f = none → k2 = k)
theorem QT.bel {w w' : World} {b : Nat} {A : Option Addr} {n c : Nat} {zs : List Int} {k : Nat} {f : Option (Int × Int)} (h : QT w b A n c zs k f) (hk : Bel w w') : QT w' b A n c zs k f := by
  obtain ⟨k2, h1, h2⟩ := h
  exact ⟨k2, h1.bel hk, h2⟩
theorem QT.kep {S : Nat → Prop} {w w' : World} {b : Nat} {A : Option Addr} {n c : Nat} {zs : List Int} {k : Nat} {f : Option (Int × Int)} (h : QT w b A n c zs k f) (hk : Kep S w w') (h1 : ¬ S b) (h2 : 0 < n → ∀ x : Addr, A = some x → ¬ S x.block) : QT w' b A n c zs k f := by
  obtain ⟨k2, h3, h4⟩ := h
  exact ⟨k2, h3.kep hk h1 h2, h4⟩
theorem atOf_some (k k2 : Nat) {f : Option (Int × Int)} (h : f = none → k2 = k) : atOf k2 f = atOf k f := by
  cases f with
  | none => rw [h rfl]
  | some q => rfl
theorem leftOf_some (n k k2 : Nat) {f : Option (Int × Int)} (h : f = none → k2 = k) : leftOf n k2 f = leftOf n k f := by
  cases f with
  | none => rw [h rfl]
  | some q => rfl
theorem endOf_some (n k k2 : Nat) {f : Option (Int × Int)} (h : f = none → k2 = k) : endOf n k2 f = endOf n k f := by
  cases f with
  | none => rw [h rfl]
  | some q => rfl
theorem tEnd (b : Nat) (A : Option Addr) (n c : Nat) (zs : List Int) (k : Nat) (f : Option (Int × Int)) (w : World) (h : QT w b A n c zs k f) :
    Calls Tryz.prog 46 #[.pointer (some ⟨b, 0, none⟩)] w fun r w' => r = .returned (fault (endOf zs.length k f)) ∧ Bel w w' := by
  obtain ⟨k2, h1, h2⟩ := h
  rw [← endOf_some _ k k2 h2]
  exact qEnd b A n c zs k2 f w h1
theorem tFail (b : Nat) (A : Option Addr) (n c : Nat) (zs : List Int) (k : Nat) (f : Option (Int × Int)) (e p : Int) (w : World) (h : QT w b A n c zs k f) :
    Calls Tryz.prog 45 #[.pointer (some ⟨b, 0, none⟩), .int .i64 e, .int .i64 p] w fun r w' => r = .returned (.tuple #[]) ∧ QT w' b A n c zs k (failOf f e p) ∧ Kep (fun i => i = b) w w' := by
  obtain ⟨k2, h1, h2⟩ := h
  refine (qFail b A n c zs k2 f e p w h1).mono fun r w' hr => ⟨hr.1, ⟨k2, hr.2.1, fun hn => h2 ?_⟩, hr.2.2⟩
  cases f with
  | none => rfl
  | some q => unfold failOf at hn; split at hn <;> cases hn
theorem tU (b : Nat) (A : Option Addr) (n c : Nat) (zs : List Int) (k : Nat) (f : Option (Int × Int)) (x : Int) (k' : Nat) (f' : Option (Int × Int)) (w : World) (h : QT w b A n c zs k f) (hr : RU zs k f x k' f') :
    Calls Tryz.prog 65 #[.pointer (some ⟨b, 0, none⟩)] w fun r w' => r = .returned (.int .u64 x) ∧ QT w' b A n c zs k' f' ∧ Kep (fun i => i = b) w w' := by
  obtain ⟨k2, h1, h2⟩ := h
  rcases hr with ⟨p, rfl, rfl, rfl, rfl⟩ | ⟨rfl, hr⟩
  · exact (qU b A n c zs k2 (some p) 0 k2 (some p) w h1 (.inl ⟨p, rfl, rfl, rfl, rfl⟩)).mono fun r w' hr => ⟨hr.1, ⟨k2, hr.2.1, fun h => by cases h⟩, hr.2.2⟩
  · obtain rfl := h2 rfl
    exact (qU b A n c zs k2 none x k' f' w h1 (.inr ⟨rfl, hr⟩)).mono fun r w' hr => ⟨hr.1, ⟨k', hr.2.1, fun _ => rfl⟩, hr.2.2⟩

theorem way_zero {zs : List Int} {k x tl e bad : Int} (h : Way zs k x tl e bad) (he : e ≠ 0) : x = 0 := by
  rcases h with ⟨_, h, _⟩ | ⟨_, _, _, h, _⟩ | ⟨_, _, _, _, _, _, _, _, _, _, _, h, _⟩
  · exact h
  · exact h
  · exact absurd h he
theorem way_to {zs : List Int} {k x tl bad : Int} (h : Way zs k x tl 0 bad) : ∃ t : Nat, tl = t ∧ t ≤ zs.length := by
  rcases h with ⟨_, _, _, h, _⟩ | ⟨_, _, _, _, _, _, h⟩ | ⟨k, j, _, _, h, _, _, _, _, _, h2, _⟩
  · omega
  · rcases h with ⟨h, _⟩ | ⟨h, _⟩ | ⟨h, _⟩ <;> omega
  · exact ⟨k + j + 1, by omega, by omega⟩

set_option maxRecDepth 100000 in
set_option maxHeartbeats 2000000 in
theorem tN (b : Nat) (A : Option Addr) (n c : Nat) (zs : List Int) (k : Nat) (f : Option (Int × Int)) (least most x : Int) (k' : Nat) (f' : Option (Int × Int)) (w : World) (h : QT w b A n c zs k f) (hr : RN zs k f least most x k' f') (l1 : least ≤ 9223372036854775807) (m1 : most ≤ 9223372036854775807) :
    Calls Tryz.prog 42 #[.pointer (some ⟨b, 0, none⟩), .int .i64 least, .int .i64 most] w fun r w' => r = .returned (.int .i64 x) ∧ QT w' b A n c zs k' f' ∧ Kep (fun i => i = b) w w' := by
  obtain ⟨k2, hq, h2⟩ := h
  have k1 : w.cell? ⟨b, 1, none⟩ = some (.int .i64 (k2 : Int)) := hq.blk.cell 1 rfl
  rcases hr with ⟨p, rfl, rfl, rfl, rfl⟩ | ⟨rfl, tl, e, bad, ⟨x0, t0, e0, b0, hw, h0, h1, hcs⟩, hm, hk', hx⟩
  · have U := Lib.hid (qU b A n c zs k2 (some p) 0 k2 (some p) w hq (.inl ⟨p, rfl, rfl, rfl, rfl⟩))
    have he : p.1 ≠ 0 := hq.flt _ rfl
    have fe : (p.1 != 0) = true := by rw [bne_iff_ne]; exact he
    have fe2 : (p.1 == 0) = false := by rw [beq_eq_false_iff_ne]; exact he
    clear hq h2 he
    go_enter Tryz.func42, Tryz.ntmps42
    go_wp2_with fail
    refine (U.out).mono ?_
    rintro r w1 ⟨rfl, hq, hk⟩
    have c2 : w1.cell? ⟨b, 2, none⟩ = some (.int .i64 p.1) := hq.blk.cell 2 rfl
    have HQ := Lib.hid hq
    have HK := Lib.hid hk
    clear hq hk
    go_wp2
    go_ret
    exact ⟨rfl, ⟨k2, HQ.out, fun h => by cases h⟩, HK.out⟩
  obtain rfl := h2 rfl
  clear h2
  rcases hcs with ⟨he, rfl, rfl, rfl, rfl⟩ | ⟨rfl, hx0, rfl, rfl, rfl, rfl⟩ | ⟨rfl, hx1, hx2, rfl, rfl, rfl, rfl⟩
  · obtain ⟨h, _⟩ | ⟨_, rfl, rfl⟩ := hm
    · exact absurd h he
    have U := Lib.hid (qU b A n c zs k' none x0 k' (some (e, bad)) w hq (.inr ⟨rfl, _, _, _, hw, .inr ⟨he, rfl, rfl⟩, hk', way_zero hw⟩))
    have fe : (e != 0) = true := by rw [bne_iff_ne]; exact he
    have fe2 : (e == 0) = false := by rw [beq_eq_false_iff_ne]; exact he
    clear hq he hw hx hk'
    go_enter Tryz.func42, Tryz.ntmps42
    go_wp2_with fail
    refine (U.out).mono ?_
    rintro r w1 ⟨rfl, hq, hk⟩
    have c2 : w1.cell? ⟨b, 2, none⟩ = some (.int .i64 e) := hq.blk.cell 2 rfl
    have HQ := Lib.hid hq
    have HK := Lib.hid hk
    clear hq hk
    go_wp2
    go_ret
    exact ⟨rfl, ⟨k', HQ.out, fun h => by cases h⟩, HK.out⟩
  · obtain ⟨h, _⟩ | ⟨_, rfl, rfl⟩ := hm
    · exact absurd h (by decide)
    obtain ⟨t, rfl, ht⟩ := way_to hw
    have U := Lib.hid (qU b A n c zs k' none x0 t none w hq (.inr ⟨rfl, _, _, _, hw, .inl ⟨rfl, rfl, rfl⟩, ht, fun h => absurd rfl h⟩))
    have hcs : (most < 0 ∧ x0 ≤ 0 ∧ max most 0 = 0) ∨ (most < 0 ∧ 0 < x0 ∧ max most 0 = 0) ∨ (0 ≤ most ∧ most < x0 ∧ max most 0 = most) ∨ (0 ≤ most ∧ x0 ≤ most ∧ 0 < least ∧ x0 < least ∧ max most 0 = most) := by omega
    clear hq hw hx hk' hx0
    rcases hcs with ⟨g1, g2, e1⟩ | ⟨g1, g2, e1⟩ | ⟨g1, g2, e1⟩ | ⟨g1, g2, g3, g4, e1⟩
    all_goals
      go_enter Tryz.func42, Tryz.ntmps42
      go_wp2_with fail
      refine (U.out).mono ?_
      rintro r w1 ⟨rfl, hq, hk⟩
      have c2 : w1.cell? ⟨b, 2, none⟩ = some (.int .i64 0) := hq.blk.cell 2 rfl
      have FL := Lib.hid (qFail b A n c zs t none 3 (k' : Int) w1 hq)
      have HK := Lib.hid hk
      clear hq hk
      go_wp2_with fail
      refine (FL.out).mono ?_
      rintro r w2 ⟨rfl, hq, hk⟩
      have hq : QS w2 b A n c zs t (some (3, (k' : Int))) := hq
      have c2 : w2.cell? ⟨b, 2, none⟩ = some (.int .i64 3) := hq.blk.cell 2 rfl
      have HQ := Lib.hid hq
      have HK2 := Lib.hid (HK.out.trans hk)
      clear hq hk
      go_wp2
      go_ret
      exact ⟨rfl, ⟨t, HQ.out, fun h => by cases h⟩, HK2.out⟩
  · obtain ⟨_, rfl, rfl⟩ | ⟨h, _⟩ := hm
    · have U := Lib.hid (qU b A n c zs k2 none x k' none w hq (.inr ⟨rfl, _, _, _, hw, .inl ⟨rfl, rfl, rfl⟩, hk', hx⟩))
      have m0 : 0 ≤ most := by omega
      have g1 : x ≤ most := hx2
      have e1 : max most 0 = most := by omega
      clear hq hw
      go_enter Tryz.func42, Tryz.ntmps42
      go_wp2_with fail
      refine (U.out).mono ?_
      rintro r w1 ⟨rfl, hq, hk⟩
      have c2 : w1.cell? ⟨b, 2, none⟩ = some (.int .i64 0) := hq.blk.cell 2 rfl
      have HQ := Lib.hid hq
      have HK := Lib.hid hk
      clear hq hk
      go_wp2
      all_goals
        go_ret
        exact ⟨rfl, ⟨k', HQ.out, fun _ => rfl⟩, HK.out⟩
    · exact absurd rfl h
end Cd
end Go.Proofs.YtpohcdfmkcfonaaGreatDoor
end
