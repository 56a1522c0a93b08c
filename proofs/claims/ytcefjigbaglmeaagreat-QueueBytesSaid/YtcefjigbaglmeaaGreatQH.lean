/-
  Texts of this claim, put together: Sm4b, Sm3b, QRead, QRead2, QRead3, Sm4c. What each one says, and under which conditions, stands ahead of it.
-/
import Derived.Test.YtcefjigbaglmeaaGreatQA
import Derived.Test.YtcefjigbaglmeaaGreatRC
import Derived.Test.YtcefjigbaglmeaaGreatGRef02
import Derived.Test.YtcefjigbaglmeaaGreatQF
import Derived.Test.YtcefjigbaglmeaaGreatHA
import Derived.Test.YtcefjigbaglmeaaGreatGRef02b

section
/-
  What the reference's Bytes of a stamp answers: any stamp. No condition.
-/
namespace Go.Proofs.YtcefjigbaglmeaaGreat
open Go.RowKit Go.Shelf
set_option linter.unusedVariables false
namespace Sm
open Cd

theorem take_succ' (zs : List Int) (i : Nat) (h : i < zs.length) : zs.take (i + 1) = zs.take i ++ [zs.getD i 0] := by
  rw [List.take_add_one, List.getElem?_eq_getElem h, Kk.getD_eq _ _ h]
  rfl
theorem encs4 (a b c d : Int) : Rm.encs [a, b, c + 1, d] = enc4 a b c d := by unfold enc4; simp [Rm.encs]

end Sm
end Go.Proofs.YtcefjigbaglmeaaGreat
end

section
/-
  What stamp.Read answers. Conditions: at most 10^6 bytes; the bytes are bytes.
-/
namespace Go.Proofs.YtcefjigbaglmeaaGreat
open Go.RowKit Go.Shelf
set_option linter.unusedVariables false
namespace Sm
open Cd

/-- What Read tells of a stamp's number. -/
def rz (e x : Int) : Int := if e = 0 then x else 0
theorem load_flt {w : World} {b : Nat} {a1 a2 : Int} (h : Blk w b #[.int .i64 a1, .int .i64 a2] 32) : (loadVar 32 ⟨b, 0, none⟩).run Tryz.prog w = .ok (.agg #[.int .i64 a1, .int .i64 a2]) w :=
  Pm.load_b (C := [.int .i64 a1, .int .i64 a2]) h Tryz.underlying32 rfl (by kernel_rfl)
theorem tz_end {n k : Nat} {f : Option (Int × Int)} {e1 e2 : Int} (he : endOf n k f = (e1, e2)) (hf : ∀ p, f = some p → p.1 ≠ 0) (h : e1 = 0) (x : Int) : tz f x = x := by
  cases f with
  | none => rfl
  | some p =>
    have h1 : p = (e1, e2) := he
    exact absurd h (by have := hf p rfl; rw [h1] at this; exact this)

theorem end_e2 {n k : Nat} {f : Option (Int × Int)} {e1 e2 : Int} (he : endOf n k f = (e1, e2)) (hf : ∀ p, f = some p → p.1 ≠ 0) (h : e1 = 0) : e2 = 0 ∧ f = none ∧ n ≤ k := by
  cases f with
  | none =>
    have h1 : (if k < n then ((4 : Int), (k : Int)) else (0, 0)) = (e1, e2) := he
    by_cases hk : k < n
    · rw [if_pos hk] at h1
      injection h1 with h1 _
      omega
    · rw [if_neg hk] at h1
      injection h1 with _ h1
      exact ⟨h1.symm, rfl, by omega⟩
  | some p =>
    have h1 : p = (e1, e2) := he
    exact absurd h (by have := hf p rfl; rw [h1] at this; exact this)
end Sm
end Go.Proofs.YtcefjigbaglmeaaGreat
end

section
/-
  What the reference's reader answers: Fail, At, Left, End, NewReader.
  Conditions: the reader is one that the reference's NewReader made of at most 10^6 bytes.
-/
namespace Go.Proofs.YtcefjigbaglmeaaGreat
open Go.RowKit Go.Shelf
set_option linter.unusedVariables false
namespace Cd

/-- A fault's error and place; none: zeroes. -/
def fE (f : Option (Int × Int)) : Int := match f with
  | some q => q.1
  | none => 0
def fP (f : Option (Int × Int)) : Int := match f with
  | some q => q.2
  | none => 0
/-- The reference's reader: where it lies, its bytes, its place, its fault. -/
structure QS (w : World) (b : Nat) (A : Option Addr) (n c : Nat) (zs : List Int) (k : Nat) (f : Option (Int × Int)) : Prop where
  blk : Blk w b #[.slice A n c, .int .i64 (k : Int), .int .i64 (fE f), .int .i64 (fP f)] 70
  sl : Sl w A n c zs
  len : n ≤ 1000000
  bytes : Bytes zs
  le : k ≤ n
  apart : 0 < n → ∀ x : Addr, A = some x → x.block ≠ b
  flt : ∀ q, f = some q → q.1 ≠ 0
theorem QS.kep {S : Nat → Prop} {w w' : World} {b : Nat} {A : Option Addr} {n c : Nat} {zs : List Int} {k : Nat} {f : Option (Int × Int)} (h : QS w b A n c zs k f) (hk : Kep S w w') (h1 : ¬ S b) (h2 : 0 < n → ∀ x : Addr, A = some x → ¬ S x.block) : QS w' b A n c zs k f := by
  refine ⟨h.blk.kep hk h1, ⟨?_, h.sl.cap, h.sl.nil⟩, h.len, h.bytes, h.le, h.apart, h.flt⟩
  rcases Nat.eq_zero_or_pos n with h0 | h0
  · exact ⟨h.sl.ints.1, fun hn => absurd hn (by omega)⟩
  · exact hk.ints (h2 h0) h.sl.ints
theorem QS.bel {w w' : World} {b : Nat} {A : Option Addr} {n c : Nat} {zs : List Int} {k : Nat} {f : Option (Int × Int)} (h : QS w b A n c zs k f) (hk : Bel w w') : QS w' b A n c zs k f :=
  h.kep (S := fun _ => False) (Kep.of_bel hk) id (fun _ _ _ => id)
/-- A block turned, all else as it was. -/
theorem QS.turn {w w' : World} {b : Nat} {A : Option Addr} {n c : Nat} {zs : List Int} {k k' : Nat} {f f' : Option (Int × Int)} (h : QS w b A n c zs k f) (hk : Kep (fun i => i = b) w w')
    (hb : Blk w' b #[.slice A n c, .int .i64 (k' : Int), .int .i64 (fE f'), .int .i64 (fP f')] 70) (hk' : k' ≤ n) (hf : ∀ q, f' = some q → q.1 ≠ 0) : QS w' b A n c zs k' f' := by
  refine ⟨hb, ⟨?_, h.sl.cap, h.sl.nil⟩, h.len, h.bytes, hk', h.apart, hf⟩
  rcases Nat.eq_zero_or_pos n with h0 | h0
  · exact ⟨h.sl.ints.1, fun hn => absurd hn (by omega)⟩
  · exact hk.ints (h.apart h0) h.sl.ints

set_option maxRecDepth 100000 in
theorem qNew (A : Option Addr) (n c : Nat) (zs : List Int) (w : World) (hs : Sl w A n c zs) (hn : n ≤ 1000000) (hb : Bytes zs) :
    Calls Tryz.prog 35 #[.slice A n c] w fun e w' => ∃ b A' c', e = .returned (.pointer (some ⟨b, 0, none⟩)) ∧ w.heap.size ≤ b ∧ QS w' b A' n c' zs 0 none ∧ (0 < n → ∀ x : Addr, A' = some x → w.heap.size ≤ x.block ∧ x.block < b) ∧ Bel w w' := by
  have CL := Lib.hid (copyBytes A n c zs w hs (by omega))
  have hl := hs.len
  clear hs
  go_enter Tryz.func35, Tryz.ntmps35
  go_wp2_with fail
  refine (CL.out).mono ?_
  rintro e w1 ⟨u, rfl, hu⟩
  obtain ⟨A', c', hv, hs'⟩ := hu.sl
  subst hv
  have b1 : Bel w w1 := hu.2
  rw [hl] at hs'
  have HS := Lib.hid hs'
  have HA : Hid (∀ x : Addr, A' = some x → w.heap.size ≤ x.block ∧ x.block < w1.heap.size) := by rintro x rfl; exact hu.1.lt _ rfl
  clear hs' hu
  have hlt1 : w.heap.size ≤ w1.heap.size := Below.size b1
  go_wp2
  go_ret
  exact ⟨w1.heap.size, A', c', rfl, hlt1, ⟨Blk.new _ _ _, HS.out.bel ((Bel.refl _).alloc _), hn, hb, Nat.zero_le _, fun _ x hx => by have := HA.out x hx; omega, fun q h => by cases h⟩, fun _ x hx => HA.out x hx, b1.alloc _⟩

set_option maxRecDepth 100000 in
theorem qFail (b : Nat) (A : Option Addr) (n c : Nat) (zs : List Int) (k : Nat) (f : Option (Int × Int)) (e p : Int) (w : World) (h : QS w b A n c zs k f) :
    Calls Tryz.prog 40 #[.pointer (some ⟨b, 0, none⟩), .int .i64 e, .int .i64 p] w fun r w' => r = .returned (.tuple #[]) ∧ QS w' b A n c zs k (failOf f e p) ∧ Kep (fun i => i = b) w w' := by
  have H := Lib.hid h
  have k2 : w.cell? ⟨b, 2, none⟩ = some (.int .i64 (fE f)) := h.blk.cell 2 rfl
  have k3 : w.cell? ⟨b, 3, none⟩ = some (.int .i64 (fP f)) := h.blk.cell 3 rfl
  have f2 := h.blk.frozen 2
  have f3 := h.blk.frozen 3
  rcases hf : f with _ | ⟨e', p'⟩
  · subst hf
    by_cases he : e = 0
    · have E := Lib.hid (show failOf none e p = none from if_pos he)
      have fe : (e != 0) = false := by rw [he]; rfl
      replace k2 : w.cell? ⟨b, 2, none⟩ = some (.int .i64 0) := k2
      clear h he
      go_enter Tryz.func40, Tryz.ntmps40
      go_wp2
      go_end0
      rw [E.out]
      exact ⟨rfl, H.out, Kep.refl _ _⟩
    · have E := Lib.hid (show failOf none e p = some (e, p) from if_neg he)
      have fe : (e != 0) = true := by rw [bne_iff_ne]; exact he
      have HE := Lib.hid he
      replace k2 : w.cell? ⟨b, 2, none⟩ = some (.int .i64 0) := k2
      replace k3 : w.cell? ⟨b, 3, none⟩ = some (.int .i64 0) := k3
      clear h he
      go_enter Tryz.func40, Tryz.ntmps40
      go_wp2
      go_end0
      rw [E.out]
      exact ⟨rfl, H.out.turn (((Kep.refl _ _).set_self 2 _).set_self 3 _) ((H.out.blk.set 2 _).set 3 _) H.out.le (fun q hq => by cases hq; exact HE.out), ((Kep.refl _ _).set_self 2 _).set_self 3 _⟩
  · have E := Lib.hid (show failOf (some (e', p')) e p = some (e', p') by unfold failOf; split <;> rfl)
    subst hf
    have he := h.flt _ rfl
    have fe : (e' == 0) = false := by rw [beq_eq_false_iff_ne]; exact he
    replace k2 : w.cell? ⟨b, 2, none⟩ = some (.int .i64 e') := k2
    clear h he
    go_enter Tryz.func40, Tryz.ntmps40
    go_wp2
    go_end0
    rw [E.out]
    exact ⟨rfl, H.out, Kep.refl _ _⟩

set_option maxRecDepth 100000 in
theorem qAt (b : Nat) (A : Option Addr) (n c : Nat) (zs : List Int) (k : Nat) (f : Option (Int × Int)) (w : World) (h : QS w b A n c zs k f) :
    Calls Tryz.prog 37 #[.pointer (some ⟨b, 0, none⟩)] w fun r w' => r = .returned (.int .i64 (atOf k f)) ∧ w = w' := by
  have k1 : w.cell? ⟨b, 1, none⟩ = some (.int .i64 (k : Int)) := h.blk.cell 1 rfl
  have k2 : w.cell? ⟨b, 2, none⟩ = some (.int .i64 (fE f)) := h.blk.cell 2 rfl
  have k3 : w.cell? ⟨b, 3, none⟩ = some (.int .i64 (fP f)) := h.blk.cell 3 rfl
  rcases hf : f with _ | ⟨e', p'⟩
  · subst hf
    replace k2 : w.cell? ⟨b, 2, none⟩ = some (.int .i64 0) := k2
    clear h
    go_enter Tryz.func37, Tryz.ntmps37
    go_wp2
    go_ret
    exact ⟨rfl, rfl⟩
  · subst hf
    have he := h.flt _ rfl
    have fe : (e' != 0) = true := by rw [bne_iff_ne]; exact he
    replace k2 : w.cell? ⟨b, 2, none⟩ = some (.int .i64 e') := k2
    replace k3 : w.cell? ⟨b, 3, none⟩ = some (.int .i64 p') := k3
    clear h he
    go_enter Tryz.func37, Tryz.ntmps37
    go_wp2
    go_ret
    exact ⟨rfl, rfl⟩

end Cd
end Go.Proofs.YtcefjigbaglmeaaGreat
end

section
/-
  What the reference's reader answers: End and U.
  Conditions: the reader is one that the reference's NewReader made of at most 10^6 bytes.
-/
namespace Go.Proofs.YtcefjigbaglmeaaGreat
open Go.RowKit Go.Shelf
set_option linter.unusedVariables false
namespace Cd

set_option maxRecDepth 100000 in
set_option maxHeartbeats 1000000 in
theorem qEnd (b : Nat) (A : Option Addr) (n c : Nat) (zs : List Int) (k : Nat) (f : Option (Int × Int)) (w : World) (h : QS w b A n c zs k f) :
    Calls Tryz.prog 43 #[.pointer (some ⟨b, 0, none⟩)] w fun r w' => r = .returned (fault (endOf zs.length k f)) ∧ Bel w w' := by
  have hw : Bel w (w.alloc (.cells #[.int .i64 0, .int .i64 0] 32)) := (Bel.refl w).alloc _
  have hB := h.blk.bel hw
  have k0 := hB.cell 0 rfl
  have k1 := hB.cell 1 rfl
  have k2 := hB.cell 2 rfl
  have k3 := hB.cell 3 rfl
  have hl := h.sl.len
  have h1 := h.len
  have h2 := h.le
  rcases hf : f with _ | ⟨e', p'⟩
  · subst hf
    replace k2 : (w.alloc (.cells #[.int .i64 0, .int .i64 0] 32)).cell? ⟨b, 2, none⟩ = some (.int .i64 0) := k2
    replace k3 : (w.alloc (.cells #[.int .i64 0, .int .i64 0] 32)).cell? ⟨b, 3, none⟩ = some (.int .i64 0) := k3
    by_cases hlt : k < n
    · have g : (k : Int) < (n : Int) := by omega
      have E := Lib.hid (show endOf zs.length k none = (4, (k : Int)) from if_pos (by rw [hl]; exact hlt))
      clear h hB hw
      go_enter Tryz.func43, Tryz.ntmps43
      go_wp2_with fail
      go_quiet (fail)
      go_wp2
      rw [E.out]
      refine bodyPost_ret (v := .agg #[.int .i64 4, .int .i64 (k : Int)]) (by simp [results, Tryz.results43, go_sem]) rfl ⟨rfl, ?_⟩
      first | exact ((Bel.refl _).drewN _).alloc _ | exact ((Bel.refl _).alloc _).drewN _ | exact ((((Bel.refl _).alloc _).drewN _).set (Nat.le_refl _) _).set (Nat.le_refl _) _
    · have g : (n : Int) ≤ (k : Int) := by omega
      have E := Lib.hid (show endOf zs.length k none = (0, 0) from if_neg (by rw [hl]; exact hlt))
      clear h hB hw
      go_enter Tryz.func43, Tryz.ntmps43
      go_wp2_with fail
      go_quiet (fail)
      go_wp2
      rw [E.out]
      refine bodyPost_ret (v := .agg #[.int .i64 0, .int .i64 0]) (by simp [results, Tryz.results43, go_sem]) rfl ⟨rfl, ?_⟩
      first | exact ((Bel.refl _).drewN _).alloc _ | exact ((Bel.refl _).alloc _).drewN _ | exact ((((Bel.refl _).alloc _).drewN _).set (Nat.le_refl _) _).set (Nat.le_refl _) _
  · subst hf
    have he : e' ≠ 0 := h.flt _ rfl
    have fe : (e' == 0) = false := by rw [beq_eq_false_iff_ne]; exact he
    have E := Lib.hid (show endOf zs.length k (some (e', p')) = (e', p') from rfl)
    replace k2 : (w.alloc (.cells #[.int .i64 0, .int .i64 0] 32)).cell? ⟨b, 2, none⟩ = some (.int .i64 e') := k2
    replace k3 : (w.alloc (.cells #[.int .i64 0, .int .i64 0] 32)).cell? ⟨b, 3, none⟩ = some (.int .i64 p') := k3
    clear h hB he hw
    go_enter Tryz.func43, Tryz.ntmps43
    go_wp2_with fail
    go_quiet (fail)
    go_wp2
    rw [E.out]
    refine bodyPost_ret (v := .agg #[.int .i64 e', .int .i64 p']) (by simp [results, Tryz.results43, go_sem]) rfl ⟨rfl, ?_⟩
    first | exact ((Bel.refl _).drewN _).alloc _ | exact ((Bel.refl _).alloc _).drewN _ | exact ((((Bel.refl _).alloc _).drewN _).set (Nat.le_refl _) _).set (Nat.le_refl _) _

set_option maxRecDepth 100000 in
set_option maxHeartbeats 1000000 in
theorem qU (b : Nat) (A : Option Addr) (n c : Nat) (zs : List Int) (k : Nat) (f : Option (Int × Int)) (x : Int) (k' : Nat) (f' : Option (Int × Int)) (w : World) (h : QS w b A n c zs k f) (hr : RU zs k f x k' f') :
    Calls Tryz.prog 39 #[.pointer (some ⟨b, 0, none⟩)] w fun r w' => r = .returned (.int .u64 x) ∧ QS w' b A n c zs k' f' ∧ Kep (fun i => i = b) w w' := by
  have H := Lib.hid h
  have k2 := h.blk.cell 2 rfl
  rcases hr with ⟨p, rfl, rfl, rfl, rfl⟩ | ⟨rfl, tl, e, bad, hw, hm, hk', hx⟩
  · have he : p.1 ≠ 0 := h.flt _ rfl
    have fe : (p.1 != 0) = true := by rw [bne_iff_ne]; exact he
    replace k2 : w.cell? ⟨b, 2, none⟩ = some (.int .i64 p.1) := k2
    clear h he
    go_enter Tryz.func39, Tryz.ntmps39
    go_wp2
    go_ret
    exact ⟨rfl, H.out, Kep.refl _ _⟩
  replace k2 : w.cell? ⟨b, 2, none⟩ = some (.int .i64 0) := k2
  have hkn : k' ≤ n := by rw [← h.sl.len]; exact hk'
  have G := Lib.hid (fun w' (hb : Bel w w') => (ref_get A n c zs k x tl e bad w' (h.sl.bel hb).ints (by have := h.len; omega) h.bytes hw).mono (R' := fun r w1 => r = .returned (got x tl e bad) ∧ Bel w' w1 ∧ w1.cell? ⟨b, 0, none⟩ = some (.slice A n c) ∧ w1.cell? ⟨b, 1, none⟩ = some (.int .i64 (k : Int))) fun r w1 hr => ⟨hr.1, hr.2, (h.blk.bel (hb.trans hr.2)).cell 0 rfl, (h.blk.bel (hb.trans hr.2)).cell 1 rfl⟩)
  have c0 : w.cell? ⟨b, 0, none⟩ = some (.slice A n c) := h.blk.cell 0 rfl
  have c1 : w.cell? ⟨b, 1, none⟩ = some (.int .i64 (k : Int)) := h.blk.cell 1 rfl
  have n1 := World.new_ne w _ c1
  have D := Lib.hid (laid w 32)
  clear h hw hk'
  go_enter Tryz.func39, Tryz.ntmps39
  go_upto_region 3 with fail
  go_cut [3, 4, 5] (fun s3 s4 s5 wx => ∃ g : Nat, s3 = .int .u64 x ∧ s4 = .int .i64 tl ∧ s5 = .pointer (some ⟨g, 0, none⟩) ∧ w.heap.size ≤ g ∧ Blk wx g #[.int .i64 e, .int .i64 bad] 32 ∧ Bel w wx)
  case first =>
    go_region_held3 (fun w' => w'.cell? ⟨b, 0, none⟩ = some (.slice A n c) ∧ w'.cell? ⟨b, 1, none⟩ = some (.int .i64 (k : Int))) (go_keep)
      (first | (go_at_call 73; first | (refine (G.out _ ?_).mono ?_; exact ((Bel.refl _).alloc _).drew; rintro r w1 ⟨rfl, hb1, k1, k2⟩; obtain ⟨d0, d1, d2, d3, dB⟩ := D.out w1 hb1; have hb2 : Bel w w1 := (((Bel.refl _).alloc _).drew).trans hb1; have hbig := Below.size hb1; clear hb1) | (refine (G.out _ ?_).mono ?_; exact (Bel.refl _).drew; rintro r w1 ⟨rfl, hb1, k1, k2⟩; have hb2 : Bel w w1 := (Bel.refl _).drew.trans hb1; clear hb1)))
    all_goals (go_wp2_with fail; go_meet; first | exact ⟨w1.heap.size, rfl, rfl, rfl, Below.size hb2, Blk.new _ _ _, hb2.alloc _⟩ | exact ⟨w.heap.size, rfl, rfl, rfl, Nat.le_refl _, (dB.out.set 0 _).set 1 _, (hb2.set (Nat.le_refl _) _).set (Nat.le_refl _) _⟩)
  case rest =>
    obtain ⟨g, rfl, rfl, rfl, hg, hG, hbel⟩ := hcut
    have HB := Lib.hid hbel
    have HR := Lib.hid (H.out.bel hbel)
    have g0 : wc.cell? ⟨g, 0, none⟩ = some (.int .i64 e) := hG.cell 0 rfl
    have g1 : wc.cell? ⟨g, 1, none⟩ = some (.int .i64 bad) := hG.cell 1 rfl
    clear hG hbel c0 c1 n1 k2
    rcases hm with ⟨rfl, rfl, rfl⟩ | ⟨he, rfl, rfl⟩
    · have k1 : wc.cell? ⟨b, 1, none⟩ = some (.int .i64 (k : Int)) := HR.out.blk.cell 1 rfl
      have f1 := HR.out.blk.frozen 1
      go_wp2
      go_ret
      exact ⟨rfl, (HR.out.turn ((Kep.refl _ _).set_self 1 _) (HR.out.blk.set 1 _) hkn (fun q hq => by cases hq)), (Kep.of_bel HB.out).set_self _ _⟩
    · have k2 : wc.cell? ⟨b, 2, none⟩ = some (.int .i64 0) := HR.out.blk.cell 2 rfl
      have k3 : wc.cell? ⟨b, 3, none⟩ = some (.int .i64 0) := HR.out.blk.cell 3 rfl
      have f2 := HR.out.blk.frozen 2
      have f3 := HR.out.blk.frozen 3
      have fe : (e != 0) = true := by rw [bne_iff_ne]; exact he
      have HE := Lib.hid he
      have HX := Lib.hid (hx he)
      clear he hx
      go_wp2
      go_ret
      exact ⟨by rw [HX.out]; rfl, HR.out.turn (((Kep.refl _ _).set_self 2 _).set_self 3 _) ((HR.out.blk.set 2 _).set 3 _) HR.out.le (fun q hq => by cases hq; exact HE.out), ((Kep.of_bel HB.out).set_self _ _).set_self _ _⟩
end Cd
end Go.Proofs.YtcefjigbaglmeaaGreat
end

section
/-
  What the reference's reader answers: N.
  Conditions: the reader is one that the reference's NewReader made of at most 10^6 bytes.
-/
namespace Go.Proofs.YtcefjigbaglmeaaGreat
open Go.RowKit Go.Shelf
set_option linter.unusedVariables false
namespace Cd

/-- As QS; where a fault stands the place is left open. -/
def QT (w : World) (b : Nat) (A : Option Addr) (n c : Nat) (zs : List Int) (k : Nat) (f : Option (Int × Int)) : Prop := ∃ k2, QS w b A n c zs k2 f ∧ (f = none → k2 = k)
theorem QT.bel {w w' : World} {b : Nat} {A : Option Addr} {n c : Nat} {zs : List Int} {k : Nat} {f : Option (Int × Int)} (h : QT w b A n c zs k f) (hk : Bel w w') : QT w' b A n c zs k f := by
  obtain ⟨k2, h1, h2⟩ := h
  exact ⟨k2, h1.bel hk, h2⟩
theorem QT.kep {S : Nat → Prop} {w w' : World} {b : Nat} {A : Option Addr} {n c : Nat} {zs : List Int} {k : Nat} {f : Option (Int × Int)} (h : QT w b A n c zs k f) (hk : Kep S w w') (h1 : ¬ S b) (h2 : 0 < n → ∀ x : Addr, A = some x → ¬ S x.block) : QT w' b A n c zs k f := by
  obtain ⟨k2, h3, h4⟩ := h
  exact ⟨k2, h3.kep hk h1 h2, h4⟩
theorem atOf_some (k k2 : Nat) {f : Option (Int × Int)} (h : f = none → k2 = k) : atOf k2 f = atOf k f := by
  cases f with
  | none => rw [h rfl]
  | some q => rfl
theorem leftOf_some (n k k2 : Nat) {f : Option (Int × Int)} (h : f = none → k2 = k) : leftOf n k2 f = leftOf n k f := by
  cases f with
  | none => rw [h rfl]
  | some q => rfl
theorem endOf_some (n k k2 : Nat) {f : Option (Int × Int)} (h : f = none → k2 = k) : endOf n k2 f = endOf n k f := by
  cases f with
  | none => rw [h rfl]
  | some q => rfl
theorem tAt (b : Nat) (A : Option Addr) (n c : Nat) (zs : List Int) (k : Nat) (f : Option (Int × Int)) (w : World) (h : QT w b A n c zs k f) :
    Calls Tryz.prog 37 #[.pointer (some ⟨b, 0, none⟩)] w fun r w' => r = .returned (.int .i64 (atOf k f)) ∧ w = w' := by
  obtain ⟨k2, h1, h2⟩ := h
  rw [← atOf_some k k2 h2]
  exact qAt b A n c zs k2 f w h1
theorem tEnd (b : Nat) (A : Option Addr) (n c : Nat) (zs : List Int) (k : Nat) (f : Option (Int × Int)) (w : World) (h : QT w b A n c zs k f) :
    Calls Tryz.prog 43 #[.pointer (some ⟨b, 0, none⟩)] w fun r w' => r = .returned (fault (endOf zs.length k f)) ∧ Bel w w' := by
  obtain ⟨k2, h1, h2⟩ := h
  rw [← endOf_some _ k k2 h2]
  exact qEnd b A n c zs k2 f w h1
theorem tFail (b : Nat) (A : Option Addr) (n c : Nat) (zs : List Int) (k : Nat) (f : Option (Int × Int)) (e p : Int) (w : World) (h : QT w b A n c zs k f) :
    Calls Tryz.prog 40 #[.pointer (some ⟨b, 0, none⟩), .int .i64 e, .int .i64 p] w fun r w' => r = .returned (.tuple #[]) ∧ QT w' b A n c zs k (failOf f e p) ∧ Kep (fun i => i = b) w w' := by
  obtain ⟨k2, h1, h2⟩ := h
  refine (qFail b A n c zs k2 f e p w h1).mono fun r w' hr => ⟨hr.1, ⟨k2, hr.2.1, fun hn => h2 ?_⟩, hr.2.2⟩
  cases f with
  | none => rfl
  | some q => unfold failOf at hn; split at hn <;> cases hn
theorem tU (b : Nat) (A : Option Addr) (n c : Nat) (zs : List Int) (k : Nat) (f : Option (Int × Int)) (x : Int) (k' : Nat) (f' : Option (Int × Int)) (w : World) (h : QT w b A n c zs k f) (hr : RU zs k f x k' f') :
    Calls Tryz.prog 39 #[.pointer (some ⟨b, 0, none⟩)] w fun r w' => r = .returned (.int .u64 x) ∧ QT w' b A n c zs k' f' ∧ Kep (fun i => i = b) w w' := by
  obtain ⟨k2, h1, h2⟩ := h
  rcases hr with ⟨p, rfl, rfl, rfl, rfl⟩ | ⟨rfl, hr⟩
  · exact (qU b A n c zs k2 (some p) 0 k2 (some p) w h1 (.inl ⟨p, rfl, rfl, rfl, rfl⟩)).mono fun r w' hr => ⟨hr.1, ⟨k2, hr.2.1, fun h => by cases h⟩, hr.2.2⟩
  · obtain rfl := h2 rfl
    exact (qU b A n c zs k2 none x k' f' w h1 (.inr ⟨rfl, hr⟩)).mono fun r w' hr => ⟨hr.1, ⟨k', hr.2.1, fun _ => rfl⟩, hr.2.2⟩

theorem way_zero {zs : List Int} {k x tl e bad : Int} (h : Way zs k x tl e bad) (he : e ≠ 0) : x = 0 := by
  rcases h with ⟨_, h, _⟩ | ⟨_, _, _, h, _⟩ | ⟨_, _, _, _, _, _, _, _, _, _, _, h, _⟩
  · exact h
  · exact h
  · exact absurd h he
theorem way_to {zs : List Int} {k x tl bad : Int} (h : Way zs k x tl 0 bad) : ∃ t : Nat, tl = t ∧ t ≤ zs.length := by
  rcases h with ⟨_, _, _, h, _⟩ | ⟨_, _, _, _, _, _, h⟩ | ⟨k, j, _, _, h, _, _, _, _, _, h2, _⟩
  · omega
  · rcases h with ⟨h, _⟩ | ⟨h, _⟩ | ⟨h, _⟩ <;> omega
  · exact ⟨k + j + 1, by omega, by omega⟩

set_option maxRecDepth 100000 in
set_option maxHeartbeats 2000000 in
theorem tN (b : Nat) (A : Option Addr) (n c : Nat) (zs : List Int) (k : Nat) (f : Option (Int × Int)) (least most x : Int) (k' : Nat) (f' : Option (Int × Int)) (w : World) (h : QT w b A n c zs k f) (hr : RN zs k f least most x k' f') (l1 : least ≤ 9223372036854775807) (m1 : most ≤ 9223372036854775807) :
    Calls Tryz.prog 36 #[.pointer (some ⟨b, 0, none⟩), .int .i64 least, .int .i64 most] w fun r w' => r = .returned (.int .i64 x) ∧ QT w' b A n c zs k' f' ∧ Kep (fun i => i = b) w w' := by
  obtain ⟨k2, hq, h2⟩ := h
  have k1 : w.cell? ⟨b, 1, none⟩ = some (.int .i64 (k2 : Int)) := hq.blk.cell 1 rfl
  rcases hr with ⟨p, rfl, rfl, rfl, rfl⟩ | ⟨rfl, tl, e, bad, ⟨x0, t0, e0, b0, hw, h0, h1, hcs⟩, hm, hk', hx⟩
  · have U := Lib.hid (qU b A n c zs k2 (some p) 0 k2 (some p) w hq (.inl ⟨p, rfl, rfl, rfl, rfl⟩))
    have he : p.1 ≠ 0 := hq.flt _ rfl
    have fe : (p.1 != 0) = true := by rw [bne_iff_ne]; exact he
    have fe2 : (p.1 == 0) = false := by rw [beq_eq_false_iff_ne]; exact he
    clear hq h2 he
    go_enter Tryz.func36, Tryz.ntmps36
    go_wp2_with fail
    refine (U.out).mono ?_
    rintro r w1 ⟨rfl, hq, hk⟩
    have c2 : w1.cell? ⟨b, 2, none⟩ = some (.int .i64 p.1) := hq.blk.cell 2 rfl
    have HQ := Lib.hid hq
    have HK := Lib.hid hk
    clear hq hk
    go_wp2
    go_ret
    exact ⟨rfl, ⟨k2, HQ.out, fun h => by cases h⟩, HK.out⟩
  obtain rfl := h2 rfl
  clear h2
  rcases hcs with ⟨he, rfl, rfl, rfl, rfl⟩ | ⟨rfl, hx0, rfl, rfl, rfl, rfl⟩ | ⟨rfl, hx1, hx2, rfl, rfl, rfl, rfl⟩
  · obtain ⟨h, _⟩ | ⟨_, rfl, rfl⟩ := hm
    · exact absurd h he
    have U := Lib.hid (qU b A n c zs k' none x0 k' (some (e, bad)) w hq (.inr ⟨rfl, _, _, _, hw, .inr ⟨he, rfl, rfl⟩, hk', way_zero hw⟩))
    have fe : (e != 0) = true := by rw [bne_iff_ne]; exact he
    have fe2 : (e == 0) = false := by rw [beq_eq_false_iff_ne]; exact he
    clear hq he hw hx hk'
    go_enter Tryz.func36, Tryz.ntmps36
    go_wp2_with fail
    refine (U.out).mono ?_
    rintro r w1 ⟨rfl, hq, hk⟩
    have c2 : w1.cell? ⟨b, 2, none⟩ = some (.int .i64 e) := hq.blk.cell 2 rfl
    have HQ := Lib.hid hq
    have HK := Lib.hid hk
    clear hq hk
    go_wp2
    go_ret
    exact ⟨rfl, ⟨k', HQ.out, fun h => by cases h⟩, HK.out⟩
  · obtain ⟨h, _⟩ | ⟨_, rfl, rfl⟩ := hm
    · exact absurd h (by decide)
    obtain ⟨t, rfl, ht⟩ := way_to hw
    have U := Lib.hid (qU b A n c zs k' none x0 t none w hq (.inr ⟨rfl, _, _, _, hw, .inl ⟨rfl, rfl, rfl⟩, ht, fun h => absurd rfl h⟩))
    have hcs : (most < 0 ∧ x0 ≤ 0 ∧ max most 0 = 0) ∨ (most < 0 ∧ 0 < x0 ∧ max most 0 = 0) ∨ (0 ≤ most ∧ most < x0 ∧ max most 0 = most) ∨ (0 ≤ most ∧ x0 ≤ most ∧ 0 < least ∧ x0 < least ∧ max most 0 = most) := by omega
    clear hq hw hx hk' hx0
    rcases hcs with ⟨g1, g2, e1⟩ | ⟨g1, g2, e1⟩ | ⟨g1, g2, e1⟩ | ⟨g1, g2, g3, g4, e1⟩
    all_goals
      go_enter Tryz.func36, Tryz.ntmps36
      go_wp2_with fail
      refine (U.out).mono ?_
      rintro r w1 ⟨rfl, hq, hk⟩
      have c2 : w1.cell? ⟨b, 2, none⟩ = some (.int .i64 0) := hq.blk.cell 2 rfl
      have FL := Lib.hid (qFail b A n c zs t none 3 (k' : Int) w1 hq)
      have HK := Lib.hid hk
      clear hq hk
      go_wp2_with fail
      refine (FL.out).mono ?_
      rintro r w2 ⟨rfl, hq, hk⟩
      have hq : QS w2 b A n c zs t (some (3, (k' : Int))) := hq
      have c2 : w2.cell? ⟨b, 2, none⟩ = some (.int .i64 3) := hq.blk.cell 2 rfl
      have HQ := Lib.hid hq
      have HK2 := Lib.hid (HK.out.trans hk)
      clear hq hk
      go_wp2
      go_ret
      exact ⟨rfl, ⟨t, HQ.out, fun h => by cases h⟩, HK2.out⟩
  · obtain ⟨_, rfl, rfl⟩ | ⟨h, _⟩ := hm
    · have U := Lib.hid (qU b A n c zs k2 none x k' none w hq (.inr ⟨rfl, _, _, _, hw, .inl ⟨rfl, rfl, rfl⟩, hk', hx⟩))
      have m0 : 0 ≤ most := by omega
      have g1 : x ≤ most := hx2
      have e1 : max most 0 = most := by omega
      clear hq hw
      go_enter Tryz.func36, Tryz.ntmps36
      go_wp2_with fail
      refine (U.out).mono ?_
      rintro r w1 ⟨rfl, hq, hk⟩
      have c2 : w1.cell? ⟨b, 2, none⟩ = some (.int .i64 0) := hq.blk.cell 2 rfl
      have HQ := Lib.hid hq
      have HK := Lib.hid hk
      clear hq hk
      go_wp2
      all_goals
        go_ret
        exact ⟨rfl, ⟨k', HQ.out, fun _ => rfl⟩, HK.out⟩
    · exact absurd rfl h
end Cd
end Go.Proofs.YtcefjigbaglmeaaGreat
end

section
/-
  What the reference's Take and Read of a stamp read. Conditions: the reader is one that the reference's NewReader made of at most 10^6 bytes; the bytes are bytes.
-/
namespace Go.Proofs.YtcefjigbaglmeaaGreat
open Go.RowKit Go.Shelf
set_option linter.unusedVariables false
namespace Sm
open Cd

/-- The memory while the reference reads a stamp: the stamp's block p, the result's q. -/
structure Tq (w0 w : World) (b p q : Nat) (A : Option Addr) (n c : Nat) (zs : List Int) (k : Nat) (f : Option (Int × Int)) (x1 x2 x3 x4 : Int) : Prop where
  rd : QT w b A n c zs k f
  sp : Blk w p #[.int .i64 x1, .int .i64 x2, .int .i64 x3, .int .i64 x4] 51
  rq : Blk w q #[.int .i64 0, .int .i64 0, .int .i64 0, .int .i64 0] 51
  kep : Kep (fun i => i = b) w0 w
  bp : b < w0.heap.size
  hp : w0.heap.size ≤ p
  hq : w0.heap.size ≤ q
  pq : p ≠ q
  ap : 0 < n → ∀ x : Addr, A = some x → x.block < w0.heap.size
theorem Tq.call {w0 w w' : World} {b p q : Nat} {A : Option Addr} {n c : Nat} {zs : List Int} {k k' : Nat} {f f' : Option (Int × Int)} {x1 x2 x3 x4 : Int} (h : Tq w0 w b p q A n c zs k f x1 x2 x3 x4) (hr : QT w' b A n c zs k' f') (hk : Kep (fun i => i = b) w w') : Tq w0 w' b p q A n c zs k' f' x1 x2 x3 x4 :=
  ⟨hr, h.sp.kep hk (by have := h.bp; have := h.hp; omega), h.rq.kep hk (by have := h.bp; have := h.hq; omega), h.kep.trans hk, h.bp, h.hp, h.hq, h.pq, h.ap⟩
theorem Tq.bel {w0 w w' : World} {b p q : Nat} {A : Option Addr} {n c : Nat} {zs : List Int} {k : Nat} {f : Option (Int × Int)} {x1 x2 x3 x4 : Int} (h : Tq w0 w b p q A n c zs k f x1 x2 x3 x4) (hk : Bel w w') : Tq w0 w' b p q A n c zs k f x1 x2 x3 x4 :=
  h.call (h.rd.bel hk) (Kep.of_bel hk)
theorem Tq.put {w0 w : World} {b p q : Nat} {A : Option Addr} {n c : Nat} {zs : List Int} {k : Nat} {f : Option (Int × Int)} {x1 x2 x3 x4 y1 y2 y3 y4 : Int} (h : Tq w0 w b p q A n c zs k f x1 x2 x3 x4) (i : Nat) (v : Value)
    (e : (#[.int .i64 x1, .int .i64 x2, .int .i64 x3, .int .i64 x4] : Array Value).setIfInBounds i v = #[.int .i64 y1, .int .i64 y2, .int .i64 y3, .int .i64 y4]) : Tq w0 (w.setCell ⟨p, i, none⟩ v) b p q A n c zs k f y1 y2 y3 y4 := by
  have hk : Kep (fun i => i = p) w (w.setCell ⟨p, i, none⟩ v) := (Kep.refl _ _).set_self i v
  refine ⟨h.rd.kep hk (by have := h.bp; have := h.hp; omega) (fun hn x hx => by have := h.ap hn x hx; have := h.hp; omega), ?_, h.rq.kep hk (fun e => h.pq e.symm), kep_past1 h.kep hk h.hp, h.bp, h.hp, h.hq, h.pq, h.ap⟩
  rw [← e]
  exact h.sp.set i v

theorem qt_flt {w : World} {b : Nat} {A : Option Addr} {n c : Nat} {zs : List Int} {k : Nat} {f : Option (Int × Int)} (h : QT w b A n c zs k f) : w.cell? ⟨b, 2, none⟩ = some (.int .i64 (fE f)) ∧ (∀ q, f = some q → q.1 ≠ 0) := by
  obtain ⟨k2, h1, _⟩ := h
  exact ⟨h1.blk.cell 2 rfl, h1.flt⟩

set_option maxRecDepth 10000 in
set_option maxHeartbeats 2000000 in
theorem takeR (b : Nat) (A : Option Addr) (n c : Nat) (zs : List Int) (k : Nat) (f : Option (Int × Int)) (x1 x2 x3 x4 : Int) (k' : Nat) (f' : Option (Int × Int)) (w : World) (h : QT w b A n c zs k f) (hA : 0 < n → ∀ x : Addr, A = some x → x.block < w.heap.size) (ht : Tk zs k f x1 x2 x3 x4 k' f') :
    Calls Tryz.prog 38 #[.pointer (some ⟨b, 0, none⟩)] w fun r w' => r = .returned (stV (tz f' x1) (tz f' x2) (tz f' x3) (tz f' x4)) ∧ QT w' b A n c zs k' f' ∧ Kep (fun i => i = b) w w' := by
  obtain ⟨k1, f1, k2, f2, k3, f3, y3, f4, r1, r2, r3, r4, rfl, y0, y1, hf'⟩ := ht
  have hbl : b < w.heap.size := by obtain ⟨k2, hr, _⟩ := h; exact hr.blk.lt
  have T0 : Tq w ((w.alloc (.cells #[.int .i64 0, .int .i64 0, .int .i64 0, .int .i64 0] 51)).alloc (.cells #[.int .i64 0, .int .i64 0, .int .i64 0, .int .i64 0] 51)) b (w.heap.size + 1) w.heap.size A n c zs k f 0 0 0 0 := by
    have b0 : Bel w ((w.alloc (.cells #[.int .i64 0, .int .i64 0, .int .i64 0, .int .i64 0] 51)).alloc (.cells #[.int .i64 0, .int .i64 0, .int .i64 0, .int .i64 0] 51)) := ((Bel.refl w).alloc _).alloc _
    have p0 := Blk.new (w.alloc (.cells #[.int .i64 0, .int .i64 0, .int .i64 0, .int .i64 0] 51)) #[.int .i64 0, .int .i64 0, .int .i64 0, .int .i64 0] 51
    rw [World.size_alloc] at p0
    exact ⟨h.bel b0, p0, (Blk.new w _ _).alloc _, Kep.of_bel b0, hbl, Nat.le_succ _, Nat.le_refl _, by omega, hA⟩
  have T0 := Lib.hid T0
  have CK := Lib.hid (fun V => checkR x1 x2 (y3 - 1) x4 V)
  have AT := Lib.hid (fun V (hv : QT V b A n c zs k f) => tAt b A n c zs k f V hv)
  have N1 := Lib.hid (fun V (hv : QT V b A n c zs k f) => tN b A n c zs k f 0 31 x1 k1 f1 V hv r1 (by decide) (by decide))
  have N2 := Lib.hid (fun V (hv : QT V b A n c zs k1 f1) => tN b A n c zs k1 f1 1 4294967296 x2 k2 f2 V hv r2 (by decide) (by decide))
  have N3 := Lib.hid (fun V (hv : QT V b A n c zs k2 f2) => tN b A n c zs k2 f2 0 32 y3 k3 f3 V hv r3 (by decide) (by decide))
  have N4 := Lib.hid (fun V (hv : QT V b A n c zs k3 f3) => tN b A n c zs k3 f3 0 4294967296 x4 k' f4 V hv r4 (by decide) (by decide))
  have FL := Lib.hid (fun V e (hv : QT V b A n c zs k' f4) => tFail b A n c zs k' f4 e (atOf k f) V hv)
  have w3 : IntKind.i64.wrap (y3 - 1) = y3 - 1 := IntWalk.i64_in _ (by omega)
  obtain ⟨x3, hx3⟩ : ∃ x, y3 - 1 = x := ⟨_, rfl⟩
  obtain ⟨e, he⟩ : ∃ e, ck x1 x2 x3 x4 = e := ⟨_, rfl⟩
  obtain ⟨a, ha⟩ : ∃ a, atOf k f = a := ⟨_, rfl⟩
  rw [hx3] at CK hf' w3 ⊢
  rw [he] at CK hf'
  rw [ha] at AT hf' FL
  have HF := Lib.hid hf'
  have h0 := h
  clear h hA r1 r2 r3 r4 y0 y1 he ha hbl hf'
  go_enter Tryz.func38, Tryz.ntmps38
  have AT0 := Lib.hid (AT.out _ (h0.bel ((Bel.refl w).alloc (.cells #[.int .i64 0, .int .i64 0, .int .i64 0, .int .i64 0] 51))))
  go_wp2_with fail
  refine (AT0.out).mono ?_
  rintro r wz ⟨rfl, rfl⟩
  clear h0
  go_upto_region 3 with fail
  obtain ⟨W, hW⟩ : ∃ W, (w.alloc (.cells #[.int .i64 0, .int .i64 0, .int .i64 0, .int .i64 0] 51)).alloc (.cells #[.int .i64 0, .int .i64 0, .int .i64 0, .int .i64 0] 51) = W := ⟨_, rfl⟩
  obtain ⟨p, hp⟩ : ∃ p, w.heap.size + 1 = p := ⟨_, rfl⟩
  obtain ⟨q, hq⟩ : ∃ q, w.heap.size = q := ⟨_, rfl⟩
  rw [hW, hp, hq] at T0
  rw [hW, hp, hq]
  clear hW hp hq
  go_wp2_with fail
  refine (N1.out _ T0.out.rd).mono ?_
  rintro r w2 ⟨rfl, hr, hk⟩
  have T1 := Lib.hid (T0.out.call hr hk)
  clear hr hk T0
  have c0 := T1.out.sp.cell 0 rfl
  have f0 := T1.out.sp.frozen 0
  go_upto_region 4 with fail
  have T2 := Lib.hid (T1.out.put (y1 := x1) (y2 := 0) (y3 := 0) (y4 := 0) 0 (.int .i64 x1) rfl)
  obtain ⟨W2, hW⟩ : ∃ W, w2.setCell ⟨p, 0, none⟩ (.int .i64 x1) = W := ⟨_, rfl⟩
  rw [hW] at T2 ⊢
  clear hW c0 f0 T1
  go_wp2_with fail
  refine (N2.out _ T2.out.rd).mono ?_
  rintro r w3 ⟨rfl, hr, hk⟩
  have T3 := Lib.hid (T2.out.call hr hk)
  clear hr hk T2
  have c1 := T3.out.sp.cell 1 rfl
  have f1' := T3.out.sp.frozen 1
  go_upto_region 5 with fail
  have T4 := Lib.hid (T3.out.put (y1 := x1) (y2 := x2) (y3 := 0) (y4 := 0) 1 (.int .i64 x2) rfl)
  obtain ⟨W4, hW⟩ : ∃ W, w3.setCell ⟨p, 1, none⟩ (.int .i64 x2) = W := ⟨_, rfl⟩
  rw [hW] at T4 ⊢
  clear hW c1 f1' T3
  go_wp2_with fail
  refine (N3.out _ T4.out.rd).mono ?_
  rintro r w5 ⟨rfl, hr, hk⟩
  have T5 := Lib.hid (T4.out.call hr hk)
  clear hr hk T4
  have c2 := T5.out.sp.cell 2 rfl
  have f2' := T5.out.sp.frozen 2
  go_upto_region 6 with fail
  have T6 := Lib.hid (T5.out.put (y1 := x1) (y2 := x2) (y3 := x3) (y4 := 0) 2 (.int .i64 x3) rfl)
  obtain ⟨W6, hW⟩ : ∃ W, w5.setCell ⟨p, 2, none⟩ (.int .i64 x3) = W := ⟨_, rfl⟩
  rw [hW] at T6 ⊢
  clear hW c2 f2' T5
  go_wp2_with fail
  refine (N4.out _ T6.out.rd).mono ?_
  rintro r w7 ⟨rfl, hr, hk⟩
  have T7 := Lib.hid (T6.out.call hr hk)
  clear hr hk T6
  have c3 := T7.out.sp.cell 3 rfl
  have f3' := T7.out.sp.frozen 3
  go_upto_region 7 with fail
  have T8 := Lib.hid (T7.out.put (y1 := x1) (y2 := x2) (y3 := x3) (y4 := x4) 3 (.int .i64 x4) rfl)
  obtain ⟨W8, hW⟩ : ∃ W, w7.setCell ⟨p, 3, none⟩ (.int .i64 x4) = W := ⟨_, rfl⟩
  rw [hW] at T8 ⊢
  clear hW c3 f3' T7
  have fin : ∀ (W : World) f' , Tq w W b p q A n c zs k' f' x1 x2 x3 x4 → ∀ (v1 v2 v3 v4 : Value), QT ((((W.setCell ⟨q, 0, none⟩ v1).setCell ⟨q, 1, none⟩ v2).setCell ⟨q, 2, none⟩ v3).setCell ⟨q, 3, none⟩ v4) b A n c zs k' f' ∧ Kep (fun i => i = b) w ((((W.setCell ⟨q, 0, none⟩ v1).setCell ⟨q, 1, none⟩ v2).setCell ⟨q, 2, none⟩ v3).setCell ⟨q, 3, none⟩ v4) := fun W f' h v1 v2 v3 v4 => by
    have hk : Kep (fun i => i = q) W ((((W.setCell ⟨q, 0, none⟩ v1).setCell ⟨q, 1, none⟩ v2).setCell ⟨q, 2, none⟩ v3).setCell ⟨q, 3, none⟩ v4) := ((((Kep.refl _ _).set_self 0 v1).set_self 1 v2).set_self 2 v3).set_self 3 v4
    exact ⟨h.rd.kep hk (by have := h.bp; have := h.hq; omega) (fun hn x hx => by have := h.ap hn x hx; have := h.hq; omega), kep_past1 h.kep hk h.hq⟩
  have HFin := Lib.hid fin
  clear fin
  obtain ⟨q1, q2⟩ := qt_flt T8.out.rd
  cases f4 with
  | some p4 =>
    obtain rfl : f' = some p4 := by rw [HF.out]; unfold failOf; split <;> rfl
    have q3 : (p4.1 == 0) = false := beq_eq_false_iff_ne.2 (q2 _ rfl)
    have q4 : (p4.1 != 0) = true := by rw [bne_iff_ne]; exact q2 _ rfl
    replace q1 : W8.cell? ⟨b, 2, none⟩ = some (.int .i64 p4.1) := q1
    obtain ⟨z, hz⟩ : ∃ z, p4.1 = z := ⟨_, rfl⟩
    rw [hz] at q1 q3 q4
    clear q2 hz
    have HRQ := Lib.hid T8.out.rq
    have FI := Lib.hid (HFin.out W8 _ T8.out)
    have d0 := T8.out.rq.cell 0 rfl
    have d1 := T8.out.rq.cell 1 rfl
    have d2 := T8.out.rq.cell 2 rfl
    have d3 := T8.out.rq.cell 3 rfl
    have g0 := T8.out.rq.frozen 0
    have g1 := T8.out.rq.frozen 1
    have g2 := T8.out.rq.frozen 2
    have g3 := T8.out.rq.frozen 3
    clear T8 HFin HF CK AT AT0 N1 N2 N3 N4 FL
    go_wp2_with fail
    refine bodyPost_ret (Pm.res_c rfl _ _ ⟨q, 0, none⟩ _ rfl (load_st ((((HRQ.out.set 0 _).set 1 _).set 2 _).set 3 _))) rfl ⟨rfl, FI.out _ _ _ _⟩
  | none =>
    replace q1 : W8.cell? ⟨b, 2, none⟩ = some (.int .i64 0) := q1
    have c0 := T8.out.sp.cell 0 rfl
    have c1 := T8.out.sp.cell 1 rfl
    have c2 := T8.out.sp.cell 2 rfl
    have c3 := T8.out.sp.cell 3 rfl
    clear q2
    go_wp2_with fail
    refine (CK.out _).mono ?_
    rintro r w9 ⟨rfl, kb⟩
    have T9 := Lib.hid (T8.out.bel kb)
    clear kb T8 c0 c1 c2 c3 q1
    go_wp2_with fail
    refine (FL.out _ _ T9.out.rd).mono ?_
    rintro r wa ⟨rfl, hr, hk⟩
    rw [← HF.out] at hr
    have Ta := Lib.hid (T9.out.call hr hk)
    clear hr hk T9
    obtain ⟨q1, q2⟩ := qt_flt Ta.out.rd
    have HRQ := Lib.hid Ta.out.rq
    have FI := Lib.hid (HFin.out wa _ Ta.out)
    have d0 := Ta.out.rq.cell 0 rfl
    have d1 := Ta.out.rq.cell 1 rfl
    have d2 := Ta.out.rq.cell 2 rfl
    have d3 := Ta.out.rq.cell 3 rfl
    have g0 := Ta.out.rq.frozen 0
    have g1 := Ta.out.rq.frozen 1
    have g2 := Ta.out.rq.frozen 2
    have g3 := Ta.out.rq.frozen 3
    have c0 := Ta.out.sp.cell 0 rfl
    have c1 := Ta.out.sp.cell 1 rfl
    have c2 := Ta.out.sp.cell 2 rfl
    have c3 := Ta.out.sp.cell 3 rfl
    clear Ta HFin HF CK AT AT0 N1 N2 N3 N4 FL
    cases f' with
    | none =>
      replace q1 : wa.cell? ⟨b, 2, none⟩ = some (.int .i64 0) := q1
      clear q2
      go_wp2_with fail
      refine bodyPost_ret (Pm.res_c rfl _ _ ⟨q, 0, none⟩ _ rfl (load_st ((((HRQ.out.set 0 _).set 1 _).set 2 _).set 3 _))) rfl ⟨rfl, FI.out _ _ _ _⟩
    | some p4 =>
      have q4 : (p4.1 != 0) = true := by rw [bne_iff_ne]; exact q2 _ rfl
      replace q1 : wa.cell? ⟨b, 2, none⟩ = some (.int .i64 p4.1) := q1
      obtain ⟨z, hz⟩ : ∃ z, p4.1 = z := ⟨_, rfl⟩
      rw [hz] at q1 q4
      clear q2 hz
      go_wp2_with fail
      refine bodyPost_ret (Pm.res_c rfl _ _ ⟨q, 0, none⟩ _ rfl (load_st ((((HRQ.out.set 0 _).set 1 _).set 2 _).set 3 _))) rfl ⟨rfl, FI.out _ _ _ _⟩

end Sm
end Go.Proofs.YtcefjigbaglmeaaGreat
end
