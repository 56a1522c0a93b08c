/-
  Texts of this claim, put together: Wref, Sm9a, Qu35. What each one says, and under which conditions, stands ahead of it.
-/
import Derived.Test.YtcefjigbaglmeaaGreatGWriter3
import Derived.Test.YtcefjigbaglmeaaGreatGRef02
import Derived.Test.YtcefjigbaglmeaaGreatQH
import Derived.Test.YtcefjigbaglmeaaGreatQF
import Derived.Test.YtcefjigbaglmeaaGreatQA

section
/-
  What the reference's writer answers: NewWriter, Add, N, Done. Conditions: the writer is one that the reference's NewWriter made; bytes that lie apart from it; numbers that are not negative.
-/
namespace Go.Proofs.YtcefjigbaglmeaaGreat
open Go.RowKit Go.Shelf
set_option linter.unusedVariables false
namespace Cd

/-- The reference's writer: where it lies, its limit, its row, its error. -/
structure RW (w : World) (b : Nat) (L : Int) (v : Value) (err : Int) (out : List Int) (base : Nat) : Prop where
  blk : Blk w b #[.int .i64 L, v, .int .i64 err] 101
  row : w.ownsRow base 5 1 v out.length (out.map (Value.int .u8))
  low : 0 ≤ L
  high : L ≤ 1048576
  fits : (out.length : Int) ≤ L
  base : base ≤ w.heap.size
theorem RW.kep {S : Nat → Prop} {w w' : World} {b : Nat} {L : Int} {v : Value} {err : Int} {out : List Int} {base : Nat} (h : RW w b L v err out base) (hk : Kep S w w') (h1 : ¬ S b) (h2 : ∀ k, v.ownBlock = some k → ¬ S k) : RW w' b L v err out base :=
  ⟨h.blk.kep hk h1, hk.owns h2 h.row, h.low, h.high, h.fits, Nat.le_trans h.base hk.size⟩
theorem RW.bel {w w' : World} {b : Nat} {L : Int} {v : Value} {err : Int} {out : List Int} {base : Nat} (h : RW w b L v err out base) (hk : Bel w w') : RW w' b L v err out base :=
  h.kep (S := fun _ => False) (Kep.of_bel hk) id (fun _ _ => id)

theorem newR_no (L : Int) (w : World) (h : L < 0 ∨ 1048576 < L) :
    Calls Tryz.prog 26 #[.int .i64 L] w fun e w' => e = .returned (.tuple #[.pointer none, .int .i64 3]) ∧ w = w' := by
  by_cases h0 : L < 0
  · go_enter Tryz.func26, Tryz.ntmps26
    go_wp2
    go_ret2
    exact ⟨rfl, rfl⟩
  · have h1 : 1048576 < L := by omega
    clear h
    go_enter Tryz.func26, Tryz.ntmps26
    go_wp2
    go_ret2
    exact ⟨rfl, rfl⟩
theorem newR (L : Int) (w : World) (h0 : 0 ≤ L) (h1 : L ≤ 1048576) :
    Calls Tryz.prog 26 #[.int .i64 L] w fun e w' => e = .returned (.tuple #[.pointer (some ⟨w.heap.size, 0, none⟩), .int .i64 0]) ∧ RW w' w.heap.size L (.slice none 0 0) 0 [] w.heap.size ∧ Bel w w' := by
  go_enter Tryz.func26, Tryz.ntmps26
  go_wp2
  go_ret2
  exact ⟨rfl, ⟨Blk.new _ _ _, World.ownsRow_nil _ _ _ _, h0, h1, h0, by simp⟩, (Bel.refl _).alloc _⟩

/-- What the reference's writer is behind more bytes. -/
def stpR (L : Int) (s : List Int × Int) (more : List Int) : List Int × Int := if s.2 ≠ 0 then s else if ((s.1 ++ more).length : Int) ≤ L then (s.1 ++ more, 0) else (s.1, 4)
/-- Both writers stand alike. -/
def Alike (s t : List Int × Int) : Prop := s.2 = t.2 ∧ (s.2 = 0 → s.1 = t.1)
theorem Alike.stp {s t : List Int × Int} (h : Alike s t) (L : Int) (more : List Int) : Alike (stp L s more) (stpR L t more) := by
  obtain ⟨a, e⟩ := s
  obtain ⟨b, f⟩ := t
  obtain ⟨h1, h2⟩ := h
  have h1 : e = f := h1
  subst h1
  by_cases he : e = 0
  · have h2 : a = b := h2 he
    subst h2 he
    by_cases hl : ((a ++ more).length : Int) ≤ L
    · rw [show Cd.stp L (a, 0) more = (a ++ more, 0) by unfold Cd.stp; rw [if_neg (by simp), if_pos hl], show stpR L (a, 0) more = (a ++ more, 0) by unfold stpR; rw [if_neg (by simp), if_pos hl]]
      exact ⟨rfl, fun _ => rfl⟩
    · rw [show Cd.stp L (a, 0) more = ([], 4) by unfold Cd.stp; rw [if_neg (by simp), if_neg hl], show stpR L (a, 0) more = (a, 4) by unfold stpR; rw [if_neg (by simp), if_neg hl]]
      exact ⟨rfl, fun h => by cases h⟩
  · rw [show Cd.stp L (a, e) more = (a, e) by unfold Cd.stp; rw [if_pos he], show stpR L (b, e) more = (b, e) by unfold stpR; rw [if_pos he]]
    exact ⟨rfl, fun h => absurd h he⟩

set_option maxRecDepth 100000 in
set_option maxHeartbeats 2000000 in
theorem addR (b : Nat) (L : Int) (v : Value) (s : List Int × Int) (base : Nat) (A : Option Addr) (n c : Nat) (zs : List Int) (w : World) (h : RW w b L v s.2 s.1 base) (hs : Sl w A n c zs) (hn : n ≤ 1000000) :
    Calls Tryz.prog 60 #[.pointer (some ⟨b, 0, none⟩), .slice A n c] w fun e w' => e = .returned (.int .i64 (stpR L s zs).2) ∧ ∃ v', RW w' b L v' (stpR L s zs).2 (stpR L s zs).1 base ∧ Lies w v v' ∧ Kep (Own2 b v) w w' := by
  obtain ⟨out, e⟩ := s
  obtain ⟨Ao, co, hv, hso⟩ := sl_of_own h.row
  subst hv
  obtain ⟨k, hk⟩ : ∃ k, out.length = k := ⟨_, rfl⟩
  have H := Lib.hid h
  have HS := Lib.hid hs
  have HK := Lib.hid hk
  have hfit := h.fits
  have hlow := h.low
  have hhigh := h.high
  have hzl := hs.len
  have k0 : w.cell? ⟨b, 0, none⟩ = some (.int .i64 L) := h.blk.cell 0 rfl
  have k1 : w.cell? ⟨b, 1, none⟩ = some (.slice Ao out.length co) := h.blk.cell 1 rfl
  have k2 : w.cell? ⟨b, 2, none⟩ = some (.int .i64 e) := h.blk.cell 2 rfl
  have g1 := h.blk.frozen 1
  have g2 := h.blk.frozen 2
  have hfit : (out.length : Int) ≤ L := hfit
  rw [hk] at k1 hfit
  have SE := Lib.hid (show stpR L (out, e) zs = if e ≠ 0 then (out, e) else if ((k : Int) + n) ≤ L then (out ++ zs, 0) else (out, 4) by
    unfold stpR
    rw [show (((out ++ zs).length : Nat) : Int) = (k : Int) + n by rw [List.length_append, hk, hzl]; push_cast; rfl])
  obtain ⟨T, hT⟩ : ∃ T, stpR L (out, e) zs = T := ⟨_, rfl⟩
  rw [hT] at SE ⊢
  clear h hs hso hk hT
  by_cases he : e = 0
  · subst he
    have SE := Lib.hid (SE.out.trans (if_neg (by simp)))
    have e1 : IntKind.i64.wrap ((k : Int) + n) = (k : Int) + n := IntWalk.i64_in _ (by omega)
    by_cases hl : (k : Int) + n ≤ L
    · obtain rfl : T = (out ++ zs, 0) := SE.out.trans (if_pos hl)
      have hd : decide (L < (k : Int) + n) = false := decide_eq_false (by omega)
      have HROW := Lib.hid (show w.drew.ownsRow base 5 1 (.slice Ao k co) k (out.map (Value.int .u8)) by have := H.out.row; rw [HK.out] at this; exact this)
      have HSD := Lib.hid (HS.out.bel ((Bel.refl w).drew))
      have HBB := Lib.hid (show Blk w.drew b _ _ from H.out.blk.bel ((Bel.refl w).drew))
      have HNR := Lib.hid (HBB.out.not_row (by decide) HROW.out)
      have hmn : k + n ≤ 1000000000000 := by omega
      have HBS := Lib.hid H.out.base
      go_enter Tryz.func60, Tryz.ntmps60
      go_wp2_with fail
      go_region
      go_wp2_with (at_builtin; refine wpList_append_at rfl _ _ rfl base _ k _ rfl HROW.out A n c zs rfl HSD.out hmn HBS.out ?_; intro v' w2 hown2 hgrow hat; obtain ⟨Av, cv, hv⟩ : ∃ Av cv, v' = .slice Av (k + n) cv := slice_of_own hown2; subst hv; have HO2 := Lib.hid hown2; have HG := Lib.hid (show w.drew.grownBy w2 (Value.slice Ao k co).ownBlock from hgrow); have HAT := Lib.hid (show (Value.slice Av (k + n) cv).ownBlock = (Value.slice Ao k co).ownBlock ∨ (Value.slice Av (k + n) cv).ownBlock = some w.drew.heap.size from hat); have HB2 := Lib.hid (show Blk w2 b _ _ from (hgrow.block b HBB.out.lt (fun e => HNR.out e.symm)).trans HBB.out); clear hown2 hgrow hat; have c2' : w2.cell? ⟨b, 2, none⟩ = some (.int .i64 0) := HB2.out.cell 2 rfl; have c1' : w2.cell? ⟨b, 1, none⟩ = some (.slice Ao out.length co) := HB2.out.cell 1 rfl; have f1' := HB2.out.frozen 1)
      go_ret
      have hll : (out ++ zs).length = k + n := by rw [List.length_append, HK.out, hzl]
      have hrow : w2.ownsRow base 5 1 (.slice Av (k + n) cv) (out ++ zs).length ((out ++ zs).map (Value.int .u8)) := by rw [hll, List.map_append]; exact HO2.out
      have hkk : Kep (Own2 b (.slice Ao out.length co)) w w2 := (Kep.of_bel ((Bel.refl _).drew)).grown HG.out (fun i hi hlt' => .inr (by rw [HK.out]; exact hi))
      refine ⟨rfl, .slice Av (k + n) cv, ⟨HB2.out.set 1 _, owns_set hrow (HB2.out.not_row (by decide) hrow) 1 _, hlow, hhigh, ?_, ?_⟩, fun g hg => ?_, hkk.set (.inl rfl) _⟩
      · show ((((out ++ zs).length : Nat)) : Int) ≤ L
        rw [hll]; push_cast; omega
      · exact Nat.le_trans HBS.out (Nat.le_trans HG.out.size (Kep.set (S := fun i => i = b) (Kep.refl _ w2) (b := b) (o := 1) rfl _).size)
      · rcases HAT.out with h | h
        · rw [h] at hg; exact .inl (by rw [HK.out]; exact hg)
        · rw [h] at hg; injection hg with hg; exact .inr (by rw [← hg]; exact Nat.le_refl _)
    · obtain rfl : T = (out, 4) := SE.out.trans (if_neg hl)
      have hd : decide (L < (k : Int) + n) = true := decide_eq_true (by omega)
      go_enter Tryz.func60, Tryz.ntmps60
      go_wp2_with fail
      go_region
      go_wp2_with fail
      go_ret
      have hk : Kep (Own2 b (.slice Ao out.length co)) w (w.drew.setCell ⟨b, 2, none⟩ (.int .i64 4)) := (Kep.of_bel ((Bel.refl _).drew)).set (.inl rfl) _
      exact ⟨rfl, .slice Ao out.length co, ⟨(H.out.blk.bel (Bel.refl _).drew).set 2 _, owns_set (H.out.bel (Bel.refl _).drew).row ((H.out.blk.bel (Bel.refl _).drew).not_row (by decide) (H.out.bel (Bel.refl _).drew).row) 2 _, hlow, hhigh, H.out.fits, Nat.le_trans H.out.base hk.size⟩, Lies.refl _ _, hk⟩
  · obtain rfl : T = (out, e) := SE.out.trans (if_pos he)
    have he1 : (e == 0) = false := beq_eq_false_iff_ne.2 he
    clear he
    go_enter Tryz.func60, Tryz.ntmps60
    go_wp2_with fail
    go_region
    go_wp2_with fail
    go_ret
    exact ⟨rfl, .slice Ao out.length co, H.out.bel (Bel.refl _).drew, Lies.refl _ _, Kep.of_bel (Bel.refl _).drew⟩

set_option maxHeartbeats 1000000 in
theorem nR (b : Nat) (L : Int) (v : Value) (s : List Int × Int) (base : Nat) (x : Int) (w : World) (h : RW w b L v s.2 s.1 base) (x0 : 0 ≤ x) (x1 : x ≤ 9223372036854775807) :
    Calls Tryz.prog 27 #[.pointer (some ⟨b, 0, none⟩), .int .i64 x] w fun e w' => e = .returned (.int .i64 (stpR L s (enc x)).2) ∧ ∃ v', RW w' b L v' (stpR L s (enc x)).2 (stpR L s (enc x)).1 base ∧ Lies w v v' ∧ Kep (Own2 b v) w w' := by
  have PX := Lib.hid (fun V => ref_put x V x0 (by omega))
  have AD := Lib.hid (fun V A n c (hv : Bel w V) (hs : Sl V A n c (enc x)) (hn : n ≤ 1000000) => addR b L v s base A n c (enc x) V (h.bel hv) hs hn)
  have e5 : IntKind.u64.wrap x = x := by rw [IntKind.wrap_u64]; omega
  have hl := (enc_len x).2
  obtain ⟨T, hT⟩ : ∃ T, stpR L s (enc x) = T := ⟨_, rfl⟩
  obtain ⟨zx, hzx⟩ : ∃ zx, enc x = zx := ⟨_, rfl⟩
  rw [hT] at AD ⊢
  rw [hzx] at PX AD hl
  clear h hT hzx x1
  go_enter Tryz.func27, Tryz.ntmps27
  go_wp2_with fail
  refine (PX.out _).mono ?_
  rintro e w1 ⟨v1, rfl, hf⟩
  obtain ⟨A1, c1, rfl, hs⟩ := hf.sl
  have K1 := Lib.hid hf.2
  have AA := Lib.hid (AD.out w1 A1 zx.length c1 K1.out hs (by omega))
  clear hf hs AD
  go_wp2_with fail
  refine (AA.out).mono ?_
  rintro e w2 ⟨rfl, v', hw, hli, hk⟩
  have HR := Lib.hid (And.intro hw (And.intro (show Lies w v v' from fun g hg => (hli g hg).imp id (fun h => Nat.le_trans (Below.size K1.out) h)) (show Kep (Own2 b v) w w2 from (Kep.of_bel K1.out).trans hk)))
  clear hw hli hk
  go_wp2_with fail
  go_ret
  exact ⟨rfl, v', HR.out.1, HR.out.2.1, HR.out.2.2⟩

set_option maxHeartbeats 1000000 in
theorem doneR (b : Nat) (L : Int) (v : Value) (s : List Int × Int) (base : Nat) (w : World) (h : RW w b L v s.2 s.1 base) :
    Calls Tryz.prog 30 #[.pointer (some ⟨b, 0, none⟩)] w fun e w' => ∃ u, e = .returned (.tuple #[u, .int .i64 s.2]) ∧ Fresh w w' u (if s.2 = 0 then s.1 else []) := by
  obtain ⟨out, e⟩ := s
  obtain ⟨A, c, hv, hs⟩ := sl_of_own h.row
  subst hv
  have k1 : w.cell? ⟨b, 1, none⟩ = some (.slice A out.length c) := h.blk.cell 1 rfl
  have k2 : w.cell? ⟨b, 2, none⟩ = some (.int .i64 e) := h.blk.cell 2 rfl
  by_cases he : e = 0
  · subst he
    rw [show (if ((out, (0 : Int)).2 = 0) then (out, (0 : Int)).1 else []) = out from if_pos rfl]
    have CP := Lib.hid (copyBytes A out.length c out w hs (by have := h.fits; have := h.high; simp only at *; omega))
    clear h hs
    go_enter Tryz.func30, Tryz.ntmps30
    go_wp2_with fail
    refine (CP.out).mono ?_
    rintro e w1 ⟨u, rfl, hf⟩
    have HF := Lib.hid hf
    clear hf
    go_wp2_with fail
    go_ret2
    exact ⟨u, rfl, HF.out⟩
  · rw [show (if ((out, e).2 = 0) then (out, e).1 else []) = [] from if_neg he]
    have he1 : (e != 0) = true := by rw [bne_iff_ne]; exact he
    clear h hs he
    go_enter Tryz.func30, Tryz.ntmps30
    go_wp2_with fail
    go_region
    go_wp2_with fail
    go_ret2
    exact ⟨_, rfl, World.ownsRow_nil _ _ _ _, (Bel.refl _).drew⟩
end Cd
end Go.Proofs.YtcefjigbaglmeaaGreat
end

section
/-
  What stamp.Take tells of no reader, and what the reference's Put makes of any writer. Conditions: the writer is one that the reference's NewWriter made.
-/
namespace Go.Proofs.YtcefjigbaglmeaaGreat
open Go.RowKit Go.Shelf
set_option linter.unusedVariables false
namespace Sm
open Cd

set_option maxRecDepth 10000 in
theorem faulty0 (v : Value) (w : World) (h : Null w v) : Calls Tryz.prog 99 #[v] w fun r w' => r = .returned (.bool true) ∧ Bel w w' := by
  have LE := Lib.hid (rLeft0 v w h)
  have EN := Lib.hid (fun V (hv : Bel w V) => rEnd0 v V (h.bel hv))
  have hfd := field_flt 1 0
  clear h
  go_enter Tryz.func99, Tryz.ntmps99
  go_wp2_with fail
  refine (LE.out).mono ?_
  rintro r w1 ⟨rfl, kb⟩
  have K1 := Lib.hid kb
  clear kb LE
  go_wp2_with fail
  refine (EN.out _ K1.out).mono ?_
  rintro r w2 ⟨rfl, kb⟩
  have K2 := Lib.hid (K1.out.trans kb)
  clear kb
  go_wp2_with fail
  go_ret
  exact ⟨rfl, K2.out⟩

set_option maxRecDepth 10000 in
set_option maxHeartbeats 2000000 in
theorem take0 (v : Value) (w : World) (h : Null w v) : Calls Tryz.prog 89 #[v] w fun r w' => r = .returned (stV 0 0 0 0) ∧ Bel w w' := by
  have T0 : Bel w ((w.alloc (.cells #[.int .i64 0, .int .i64 0, .int .i64 0, .int .i64 0] 51)).alloc (.cells #[.int .i64 0, .int .i64 0, .int .i64 0, .int .i64 0] 51)) := ((Bel.refl w).alloc _).alloc _
  have p0 := Blk.new (w.alloc (.cells #[.int .i64 0, .int .i64 0, .int .i64 0, .int .i64 0] 51)) #[.int .i64 0, .int .i64 0, .int .i64 0, .int .i64 0] 51
  rw [World.size_alloc] at p0
  have q0 : Blk ((w.alloc (.cells #[.int .i64 0, .int .i64 0, .int .i64 0, .int .i64 0] 51)).alloc (.cells #[.int .i64 0, .int .i64 0, .int .i64 0, .int .i64 0] 51)) w.heap.size _ _ := (Blk.new w #[.int .i64 0, .int .i64 0, .int .i64 0, .int .i64 0] 51).alloc _
  have AT := Lib.hid (fun V (hv : Bel w V) => rAt0 v V (h.bel hv))
  have NN := Lib.hid (fun V p q (hv : Bel w V) => rN0 v p q V (h.bel hv))
  have FL := Lib.hid (fun V e p (hv : Bel w V) => rFail0 v e p V (h.bel hv))
  have FY := Lib.hid (fun V (hv : Bel w V) => faulty0 v V (h.bel hv))
  have CK := Lib.hid (fun V => check 0 0 (-1) 0 V)
  obtain ⟨E, hE⟩ : ∃ E, ck 0 0 (-1) 0 = E := ⟨_, rfl⟩
  rw [hE] at CK
  clear h hE
  go_enter Tryz.func89, Tryz.ntmps89
  go_upto_region 2 with fail
  obtain ⟨W, hW⟩ : ∃ W, (w.alloc (.cells #[.int .i64 0, .int .i64 0, .int .i64 0, .int .i64 0] 51)).alloc (.cells #[.int .i64 0, .int .i64 0, .int .i64 0, .int .i64 0] 51) = W := ⟨_, rfl⟩
  obtain ⟨p, hp⟩ : ∃ p, w.heap.size + 1 = p := ⟨_, rfl⟩
  obtain ⟨q, hq⟩ : ∃ q, w.heap.size = q := ⟨_, rfl⟩
  rw [hW, hp] at p0
  rw [hW, hq] at q0
  rw [hW] at T0
  rw [hW, hp, hq]
  have HPQ := Lib.hid (show w.heap.size ≤ p ∧ w.heap.size ≤ q ∧ p ≠ q by omega)
  have T0 := Lib.hid T0
  have P0 := Lib.hid p0
  have Q0 := Lib.hid q0
  clear hW hp hq p0 q0
  go_wp2_with fail
  refine (AT.out _ T0.out).mono ?_
  rintro r w1 ⟨rfl, kb⟩
  have T1 := Lib.hid (T0.out.trans kb)
  have P1 := Lib.hid (P0.out.bel kb)
  have Q1 := Lib.hid (Q0.out.bel kb)
  clear kb T0 P0 Q0
  go_wp2_with fail
  refine (NN.out _ _ _ T1.out).mono ?_
  rintro r w2 ⟨rfl, kb⟩
  have T2 := Lib.hid (T1.out.trans kb)
  have P2 := Lib.hid (P1.out.bel kb)
  have Q2 := Lib.hid (Q1.out.bel kb)
  have c0 := P2.out.cell 0 rfl
  have f0 := P2.out.frozen 0
  clear kb T1 P1 Q1
  go_upto_region 4 with fail
  have T3 := Lib.hid (T2.out.set (p := ⟨p, 0, none⟩) HPQ.out.1 (.int .i64 0))
  have P3 := Lib.hid (show Blk _ p #[.int .i64 0, .int .i64 0, .int .i64 0, .int .i64 0] 51 from P2.out.set 0 (.int .i64 0))
  have Q3 := Lib.hid (Q2.out.other (b' := p) (fun e => HPQ.out.2.2 e.symm) 0 (.int .i64 0))
  obtain ⟨W3, hW⟩ : ∃ W, w2.setCell ⟨p, 0, none⟩ (.int .i64 0) = W := ⟨_, rfl⟩
  rw [hW] at T3 P3 Q3 ⊢
  clear hW c0 f0 T2 P2 Q2
  go_wp2_with fail
  refine (NN.out _ _ _ T3.out).mono ?_
  rintro r w4 ⟨rfl, kb⟩
  have T4 := Lib.hid (T3.out.trans kb)
  have P4 := Lib.hid (P3.out.bel kb)
  have Q4 := Lib.hid (Q3.out.bel kb)
  have c0 := P4.out.cell 1 rfl
  have f0 := P4.out.frozen 1
  clear kb T3 P3 Q3
  go_upto_region 5 with fail
  have T5 := Lib.hid (T4.out.set (p := ⟨p, 1, none⟩) HPQ.out.1 (.int .i64 0))
  have P5 := Lib.hid (show Blk _ p #[.int .i64 0, .int .i64 0, .int .i64 0, .int .i64 0] 51 from P4.out.set 1 (.int .i64 0))
  have Q5 := Lib.hid (Q4.out.other (b' := p) (fun e => HPQ.out.2.2 e.symm) 1 (.int .i64 0))
  obtain ⟨W5, hW⟩ : ∃ W, w4.setCell ⟨p, 1, none⟩ (.int .i64 0) = W := ⟨_, rfl⟩
  rw [hW] at T5 P5 Q5 ⊢
  clear hW c0 f0 T4 P4 Q4
  go_wp2_with fail
  refine (NN.out _ _ _ T5.out).mono ?_
  rintro r w6 ⟨rfl, kb⟩
  have T6 := Lib.hid (T5.out.trans kb)
  have P6 := Lib.hid (P5.out.bel kb)
  have Q6 := Lib.hid (Q5.out.bel kb)
  have c0 := P6.out.cell 2 rfl
  have f0 := P6.out.frozen 2
  clear kb T5 P5 Q5
  go_upto_region 6 with fail
  have T7 := Lib.hid (T6.out.set (p := ⟨p, 2, none⟩) HPQ.out.1 (.int .i64 (-1)))
  have P7 := Lib.hid (show Blk _ p #[.int .i64 0, .int .i64 0, .int .i64 (-1), .int .i64 0] 51 from P6.out.set 2 (.int .i64 (-1)))
  have Q7 := Lib.hid (Q6.out.other (b' := p) (fun e => HPQ.out.2.2 e.symm) 2 (.int .i64 (-1)))
  obtain ⟨W7, hW⟩ : ∃ W, w6.setCell ⟨p, 2, none⟩ (.int .i64 (-1)) = W := ⟨_, rfl⟩
  rw [hW] at T7 P7 Q7 ⊢
  clear hW c0 f0 T6 P6 Q6
  go_wp2_with fail
  refine (NN.out _ _ _ T7.out).mono ?_
  rintro r w8 ⟨rfl, kb⟩
  have T8 := Lib.hid (T7.out.trans kb)
  have P8 := Lib.hid (P7.out.bel kb)
  have Q8 := Lib.hid (Q7.out.bel kb)
  have c0 := P8.out.cell 3 rfl
  have f0 := P8.out.frozen 3
  clear kb T7 P7 Q7
  go_upto_region 7 with fail
  have T9 := Lib.hid (T8.out.set (p := ⟨p, 3, none⟩) HPQ.out.1 (.int .i64 0))
  have P9 := Lib.hid (show Blk _ p #[.int .i64 0, .int .i64 0, .int .i64 (-1), .int .i64 0] 51 from P8.out.set 3 (.int .i64 0))
  have Q9 := Lib.hid (Q8.out.other (b' := p) (fun e => HPQ.out.2.2 e.symm) 3 (.int .i64 0))
  obtain ⟨W9, hW⟩ : ∃ W, w8.setCell ⟨p, 3, none⟩ (.int .i64 0) = W := ⟨_, rfl⟩
  rw [hW] at T9 P9 Q9 ⊢
  clear hW c0 f0 T8 P8 Q8
  have c0 := P9.out.cell 0 rfl
  have c1 := P9.out.cell 1 rfl
  have c2 := P9.out.cell 2 rfl
  have c3 := P9.out.cell 3 rfl
  go_wp2_with fail
  refine (CK.out _).mono ?_
  rintro r wa ⟨rfl, kb⟩
  have Ta := Lib.hid (T9.out.trans kb)
  have Qa := Lib.hid (Q9.out.bel kb)
  clear kb c0 c1 c2 c3 T9 P9 Q9
  go_wp2_with fail
  refine (FL.out _ _ _ Ta.out).mono ?_
  rintro r wb ⟨rfl, kb⟩
  have Tb := Lib.hid (Ta.out.trans kb)
  have Qb := Lib.hid (Qa.out.bel kb)
  clear kb Ta Qa
  go_wp2_with fail
  refine (FY.out _ Tb.out).mono ?_
  rintro r wc ⟨rfl, kb⟩
  have Tc := Lib.hid (Tb.out.trans kb)
  have Qc := Lib.hid (Qb.out.bel kb)
  clear kb Tb Qb
  have d0 := Qc.out.cell 0 rfl
  have d1 := Qc.out.cell 1 rfl
  have d2 := Qc.out.cell 2 rfl
  have d3 := Qc.out.cell 3 rfl
  have g0 := Qc.out.frozen 0
  have g1 := Qc.out.frozen 1
  have g2 := Qc.out.frozen 2
  have g3 := Qc.out.frozen 3
  go_wp2_with fail
  refine bodyPost_ret (Pm.res_c rfl _ _ ⟨q, 0, none⟩ _ rfl (load_st ((((Qc.out.set 0 _).set 1 _).set 2 _).set 3 _))) rfl ⟨rfl, (((Tc.out.set HPQ.out.2.1 _).set HPQ.out.2.1 _).set HPQ.out.2.1 _).set HPQ.out.2.1 _⟩

/-- What the reference's writer is behind a stamp. -/
def put4R (L : Int) (s : List Int × Int) (a b c d : Int) : List Int × Int :=
  if ck a b c d = 0 then stpR L (stpR L (stpR L (stpR L s (enc a)) (enc b)) (enc (c + 1))) (enc d) else s
theorem alike4 {s t : List Int × Int} (h : Cd.Alike s t) (L a b c d : Int) : Cd.Alike (put4 L s a b c d) (put4R L t a b c d) := by
  unfold put4 put4R
  split
  · exact (((h.stp L _).stp L _).stp L _).stp L _
  · exact h
set_option maxRecDepth 10000 in
set_option maxHeartbeats 2000000 in
theorem putR (b : Nat) (L : Int) (v : Value) (s : List Int × Int) (base : Nat) (x1 x2 x3 x4 : Int) (w : World) (h : RW w b L v s.2 s.1 base) :
    Calls Tryz.prog 28 #[.pointer (some ⟨b, 0, none⟩), stV x1 x2 x3 x4] w fun r w' => r = .returned (.int .i64 (if ck x1 x2 x3 x4 = 0 then (put4R L s x1 x2 x3 x4).2 else ck x1 x2 x3 x4)) ∧
      ∃ v', RW w' b L v' (put4R L s x1 x2 x3 x4).2 (put4R L s x1 x2 x3 x4).1 base ∧ Lies w v v' ∧ Kep (Own2 b v) w w' := by
  have CK := Lib.hid (fun W => checkR x1 x2 x3 x4 W)
  have P0 := Lib.hid (Blk.new w #[.int .i64 x1, .int .i64 x2, .int .i64 x3, .int .i64 x4] 51)
  have B0 := Lib.hid ((Bel.refl w).alloc (.cells #[.int .i64 x1, .int .i64 x2, .int .i64 x3, .int .i64 x4] 51))
  have H := Lib.hid h
  have hbl := h.blk.lt
  have hrl := fun k hk => (h.row.lt k hk).2
  have HBL := Lib.hid hbl
  have HRL := Lib.hid hrl
  clear h hbl hrl
  obtain ⟨p, hp⟩ : ∃ p, w.heap.size = p := ⟨_, rfl⟩
  obtain ⟨W, hW⟩ : ∃ W, w.alloc (.cells #[.int .i64 x1, .int .i64 x2, .int .i64 x3, .int .i64 x4] 51) = W := ⟨_, rfl⟩
  rw [hW, hp] at P0
  rw [hW] at B0
  rw [hp] at HBL HRL
  have HW := Lib.hid hW
  have HP := Lib.hid hp
  clear hW hp
  by_cases h0 : ck x1 x2 x3 x4 = 0
  · have e0 : put4R L s x1 x2 x3 x4 = stpR L (stpR L (stpR L (stpR L s (enc x1)) (enc x2)) (enc (x3 + 1))) (enc x4) := by unfold put4R; rw [if_pos h0]
    rw [e0, if_pos h0]
    obtain ⟨a0, a1, b0, b1, c0, c1, d0, d1, -, -, -⟩ := ck_ok h0
    rw [h0] at CK
    have N1 := Lib.hid (fun V (hv : Bel w V) => nR b L v s base x1 V (H.out.bel hv) a0 (by omega))
    obtain ⟨s1, hs1⟩ : ∃ q, stpR L s (enc x1) = q := ⟨_, rfl⟩
    rw [hs1] at N1
    have N2 := Lib.hid (fun V v1 (hv : RW V b L v1 s1.2 s1.1 base) => nR b L v1 s1 base x2 V hv (by omega) (by omega))
    obtain ⟨s2, hs2⟩ : ∃ q, stpR L s1 (enc x2) = q := ⟨_, rfl⟩
    rw [hs2] at N2
    have N3 := Lib.hid (fun V v1 (hv : RW V b L v1 s2.2 s2.1 base) => nR b L v1 s2 base (x3 + 1) V hv (by omega) (by omega))
    obtain ⟨s3, hs3⟩ : ∃ q, stpR L s2 (enc (x3 + 1)) = q := ⟨_, rfl⟩
    rw [hs3] at N3
    have N4 := Lib.hid (fun V v1 (hv : RW V b L v1 s3.2 s3.1 base) => nR b L v1 s3 base x4 V hv d0 (by omega))
    obtain ⟨s4, hs4⟩ : ∃ q, stpR L s3 (enc x4) = q := ⟨_, rfl⟩
    rw [hs4] at N4
    rw [hs1, hs2, hs3, hs4]
    clear hs1 hs2 hs3 hs4 e0 h0
    have w3 : IntKind.i64.wrap (x3 + 1) = x3 + 1 := IntWalk.i64_in _ (by omega)
    clear a0 a1 b0 b1 c0 c1 d0 d1
    go_enter Tryz.func28, Tryz.ntmps28
    go_upto_region 1 with fail
    rw [HW.out, HP.out]
    have c0 := P0.out.cell 0 rfl
    have c1 := P0.out.cell 1 rfl
    have c2 := P0.out.cell 2 rfl
    have c3 := P0.out.cell 3 rfl
    go_wp2_with fail
    refine (CK.out _).mono ?_
    rintro r w1 ⟨rfl, kb⟩
    have K1 := Lib.hid (B0.out.trans kb)
    have P1 := Lib.hid (P0.out.bel kb)
    clear kb c0 c1 c2 c3
    have c0 := P1.out.cell 0 rfl
    go_wp2_with fail
    refine (N1.out _ K1.out).mono ?_
    rintro r w2 ⟨rfl, v1, g1, l1, k1⟩
    have G1 := Lib.hid g1
    have L1 := Lib.hid (show Lies w v v1 from fun g hg => (l1 g hg).imp id (fun h => Nat.le_trans (Below.size K1.out) h))
    have KK1 := Lib.hid ((Kep.of_bel (S := Own2 b v) K1.out).trans k1)
    have P2 := Lib.hid (P1.out.kep k1 (by rintro (h | h); have := HBL.out; omega; have := HRL.out _ h; omega))
    clear g1 l1 k1 c0
    have c1 := P2.out.cell 1 rfl
    go_wp2_with fail
    refine (N2.out _ v1 G1.out).mono ?_
    rintro r w3 ⟨rfl, v2, g1, l1, k1⟩
    have G2 := Lib.hid g1
    have L2 := Lib.hid (L1.out.trans l1 KK1.out.size)
    have KK2 := Lib.hid (kep_lies KK1.out L1.out k1)
    have P3 := Lib.hid (P2.out.kep k1 (by rintro (h | h); have := HBL.out; omega; exact P2.out.not_row (by decide) G1.out.row h))
    clear g1 l1 k1 c1
    have c2 := P3.out.cell 2 rfl
    go_wp2_with fail
    refine (N3.out _ v2 G2.out).mono ?_
    rintro r w4 ⟨rfl, v3, g1, l1, k1⟩
    have G3 := Lib.hid g1
    have L3 := Lib.hid (L2.out.trans l1 KK2.out.size)
    have KK3 := Lib.hid (kep_lies KK2.out L2.out k1)
    have P4 := Lib.hid (P3.out.kep k1 (by rintro (h | h); have := HBL.out; omega; exact P3.out.not_row (by decide) G2.out.row h))
    clear g1 l1 k1 c2
    have c3 := P4.out.cell 3 rfl
    go_wp2_with fail
    refine (N4.out _ v3 G3.out).mono ?_
    rintro r w5 ⟨rfl, v4, g1, l1, k1⟩
    have G4 := Lib.hid g1
    have L4 := Lib.hid (L3.out.trans l1 KK3.out.size)
    have KK4 := Lib.hid (kep_lies KK3.out L3.out k1)
    clear g1 l1 k1 c3
    go_wp2_with fail
    go_ret
    exact ⟨rfl, v4, G4.out, L4.out, KK4.out⟩
  · have e0 : put4R L s x1 x2 x3 x4 = s := by unfold put4R; rw [if_neg h0]
    rw [e0, if_neg h0]
    obtain ⟨e, he⟩ : ∃ e, ck x1 x2 x3 x4 = e := ⟨_, rfl⟩
    rw [he] at CK h0 ⊢
    have he1 : (e != 0) = true := by rw [bne_iff_ne]; exact h0
    clear he e0 h0
    go_enter Tryz.func28, Tryz.ntmps28
    go_upto_region 1 with fail
    rw [HW.out, HP.out]
    have c0 := P0.out.cell 0 rfl
    have c1 := P0.out.cell 1 rfl
    have c2 := P0.out.cell 2 rfl
    have c3 := P0.out.cell 3 rfl
    go_wp2_with fail
    refine (CK.out _).mono ?_
    rintro r w1 ⟨rfl, kb⟩
    have K1 := Lib.hid (B0.out.trans kb)
    clear kb c0 c1 c2 c3
    go_wp2_with fail
    go_ret
    exact ⟨rfl, v, H.out.bel K1.out, Lies.refl _ _, Kep.of_bel K1.out⟩
end Sm
end Go.Proofs.YtcefjigbaglmeaaGreat
end

section
/-
  What the reference's Bytes answers of any queue. Conditions: at most 10,000 entries; Balances and Initials are words.
-/
namespace Go.Proofs.YtcefjigbaglmeaaGreat
open Go.RowKit Go.Shelf
set_option linter.unusedVariables false
set_option linter.unusedSimpArgs false
set_option Elab.async false
namespace Qu
open Cd

theorem stpR_ok {L : Int} {out more : List Int} (h : ((out ++ more).length : Int) ≤ L) : stpR L (out, 0) more = (out ++ more, 0) := by unfold stpR; rw [if_neg (by simp), if_pos h]
set_option maxRecDepth 100000 in
set_option maxHeartbeats 2000000 in
theorem wuR (b : Nat) (L : Int) (v : Value) (s : List Int × Int) (base : Nat) (x : Int) (w : World) (h : RW w b L v s.2 s.1 base) (x0 : 0 ≤ x) (x1 : x ≤ 18446744073709551615) :
    Calls Tryz.prog 29 #[.pointer (some ⟨b, 0, none⟩), .int .u64 x] w fun e w' => e = .returned (.int .i64 (stpR L s (enc x)).2) ∧ ∃ v', RW w' b L v' (stpR L s (enc x)).2 (stpR L s (enc x)).1 base ∧ Lies w v v' ∧ Kep (Own2 b v) w w' := by
  have PX := Lib.hid (fun V => ref_put x V x0 (by omega))
  have AD := Lib.hid (fun V A n c (hv : Bel w V) (hs : Sl V A n c (enc x)) (hn : n ≤ 1000000) => Cd.addR b L v s base A n c (enc x) V (h.bel hv) hs hn)
  have hl := (enc_len x).2
  obtain ⟨T, hT⟩ : ∃ T, stpR L s (enc x) = T := ⟨_, rfl⟩
  obtain ⟨zx, hzx⟩ : ∃ zx, enc x = zx := ⟨_, rfl⟩
  rw [hT] at AD ⊢
  rw [hzx] at PX AD hl
  clear h hT hzx x1
  go_enter Tryz.func29, Tryz.ntmps29
  go_wp2_with fail
  refine (PX.out _).mono ?_
  rintro e w1 ⟨v1, rfl, hf⟩
  obtain ⟨A1, c1, rfl, hs⟩ := hf.sl
  have K1 := Lib.hid hf.2
  have AA := Lib.hid (AD.out w1 A1 zx.length c1 K1.out hs (by omega))
  clear hf hs AD
  go_wp2_with fail
  refine (AA.out).mono ?_
  rintro e w2 ⟨rfl, v', hw, hli, hk⟩
  have HR := Lib.hid (And.intro hw (And.intro (show Lies w v v' from fun g hg => (hli g hg).imp id (fun h => Nat.le_trans (Below.size K1.out) h)) (show Kep (Own2 b v) w w2 from (Kep.of_bel K1.out).trans hk)))
  clear hw hli hk
  go_wp2_with fail
  go_ret
  exact ⟨rfl, v', HR.out.1, HR.out.2.1, HR.out.2.2⟩
/-- The reference's writer between two entries. -/
structure Ri (w wr : World) (b : Nat) (v : Value) (zs : List Int) : Prop where
  ws : RW wr b 1048576 v 0 zs b
  bel : Bel w wr
  ge : w.heap.size ≤ b
theorem Ri.next {w wr wn : World} {b : Nat} {v v' : Value} {zs more : List Int} (h : Ri w wr b v zs) (h1 : RW wn b 1048576 v' 0 (zs ++ more) b) (hk : Kep (Own2 b v) wr wn) : Ri w wn b v' (zs ++ more) :=
  ⟨h1, Kep.bel h.bel hk (fun i hi => by
    rcases hi with rfl | hi
    · exact h.ge
    · exact Nat.le_trans h.ge (h.ws.row.lt i hi).1), h.ge⟩
theorem riN {w wr : World} {b : Nat} {v : Value} {zs : List Int} (x : Int) (h : Ri w wr b v zs) (x0 : 0 ≤ x) (x1 : x ≤ 9223372036854775807) (hf : zs.length + 10 ≤ 1048576) :
    Calls Tryz.prog 27 #[.pointer (some ⟨b, 0, none⟩), .int .i64 x] wr fun e w' => e = .returned (.int .i64 0) ∧ ∃ v', Ri w w' b v' (zs ++ enc x) ∧ Kep (Own2 b v) wr w' ∧ Lies wr v v' := by
  have hl := (enc_len x).2
  have e1 : stpR 1048576 (zs, 0) (enc x) = (zs ++ enc x, 0) := stpR_ok (by rw [List.length_append]; omega)
  have := nR b 1048576 v (zs, 0) b x wr h.ws x0 x1
  rw [e1] at this
  refine this.mono ?_
  rintro e w' ⟨he, v', h1, h2, h3⟩
  exact ⟨he, v', h.next h1 h3, h3, h2⟩
theorem riU {w wr : World} {b : Nat} {v : Value} {zs : List Int} (x : Int) (h : Ri w wr b v zs) (x0 : 0 ≤ x) (x1 : x ≤ 18446744073709551615) (hf : zs.length + 10 ≤ 1048576) :
    Calls Tryz.prog 29 #[.pointer (some ⟨b, 0, none⟩), .int .u64 x] wr fun e w' => e = .returned (.int .i64 0) ∧ ∃ v', Ri w w' b v' (zs ++ enc x) ∧ Kep (Own2 b v) wr w' ∧ Lies wr v v' := by
  have hl := (enc_len x).2
  have e1 : stpR 1048576 (zs, 0) (enc x) = (zs ++ enc x, 0) := stpR_ok (by rw [List.length_append]; omega)
  have := wuR b 1048576 v (zs, 0) b x wr h.ws x0 x1
  rw [e1] at this
  refine this.mono ?_
  rintro e w' ⟨he, v', h1, h2, h3⟩
  exact ⟨he, v', h.next h1 h3, h3, h2⟩
theorem put4R_at {zs : List Int} {a b c d : Int} (h : Sm.ck a b c d = 0) (hf : zs.length + 40 ≤ 1048576) : Sm.put4R 1048576 (zs, 0) a b c d = (zs ++ Sm.enc4 a b c d, 0) := by
  have h1 := (enc_len a).2
  have h2 := (enc_len b).2
  have h3 := (enc_len (c + 1)).2
  have h4 := (enc_len d).2
  unfold Sm.put4R Sm.enc4
  rw [if_pos h, stpR_ok (by simp only [List.length_append]; omega), stpR_ok (by simp only [List.length_append]; omega), stpR_ok (by simp only [List.length_append]; omega), stpR_ok (by simp only [List.length_append]; omega)]
  simp [List.append_assoc]
theorem riP {w wr : World} {b : Nat} {v : Value} {zs : List Int} (x1 x2 x3 x4 : Int) (h : Ri w wr b v zs) (hk : Sm.ck x1 x2 x3 x4 = 0) (hf : zs.length + 40 ≤ 1048576) :
    Calls Tryz.prog 28 #[.pointer (some ⟨b, 0, none⟩), .agg #[.int .i64 x1, .int .i64 x2, .int .i64 x3, .int .i64 x4]] wr fun e w' => e = .returned (.int .i64 0) ∧ ∃ v', Ri w w' b v' (zs ++ Sm.enc4 x1 x2 x3 x4) ∧ Kep (Own2 b v) wr w' ∧ Lies wr v v' := by
  have := Sm.putR b 1048576 v (zs, 0) b x1 x2 x3 x4 wr h.ws
  rw [put4R_at hk hf, if_pos hk] at this
  refine this.mono ?_
  rintro e w' ⟨he, v', h1, h2, h3⟩
  exact ⟨he, v', h.next h1 h3, h3, h2⟩
set_option maxRecDepth 100000 in
set_option maxHeartbeats 16000000 in
theorem bytesR (A : Option Addr) (n c : Nat) (l : List E8) (w : World) (hi : Rw.RS eR w A n c l) (hn : n ≤ 10000) (hw : Wd l) (hwn : Wn l) :
    Calls Tryz.prog 6 #[.slice A n c] w fun e w' => ByR w w' l e := by
  have HR := Lib.hid hi
  have HLN := Lib.hid hi.len
  have HWD := Lib.hid hw
  have HWN := Lib.hid hwn
  have CK := Lib.hid (checkR A n c l w hi (by omega) hw)
  obtain ⟨e1, he1⟩ : ∃ e, (chk l).1 = e := ⟨_, rfl⟩
  obtain ⟨e2, he2⟩ : ∃ e, (chk l).2 = e := ⟨_, rfl⟩
  have HE1 := Lib.hid he1
  rw [he1, he2] at CK
  unfold ByR
  rw [he1]
  clear hi he1 he2 hw hwn
  by_cases h0 : e1 = 0
  · subst h0
    rw [if_pos rfl]
    have HOK := Lib.hid (chk_ok.1 HE1.out)
    go_enter Tryz.func6, Tryz.ntmps6
    go_wp2_with fail
    refine CK.out.mono ?_
    rintro e w1 ⟨rfl, kb⟩
    have K1 := Lib.hid (show Bel w w1 from kb)
    clear kb CK
    go_wp2_with fail
    refine (newR 1048576 w1 (by decide) (by decide)).mono ?_
    rintro e w2 ⟨rfl, hws, k1⟩
    have HGE := Lib.hid (Below.size K1.out)
    obtain ⟨b, hb⟩ : ∃ b, w1.heap.size = b := ⟨_, rfl⟩
    rw [hb] at hws HGE ⊢
    have W2 := Lib.hid (show Ri w w2 b (.slice none 0 0) [] from ⟨hws, K1.out.trans k1, HGE.out⟩)
    clear hb hws k1
    have N0 := Lib.hid (riN (n : Int) W2.out (by omega) (by omega) (by decide))
    go_wp2_with fail
    refine N0.out.mono ?_
    rintro e w3 ⟨rfl, v3, h3, _⟩
    have W3_ := Lib.hid (show Ri w w3 b v3 (encP n (l.take 0)) from by
      have : ([] : List Int) ++ enc (n : Int) = encP n (l.take 0) := by simp [encP, Rm.encs]
      rw [← this]; exact h3)
    clear h3 N0 W2
    go_wp2_with fail
    go_loopw [8] (fun s8 wr => ∃ (k : Nat) (v : Value), s8 = .int .i64 k ∧ k ≤ n ∧ Hid (Ri w wr b v (encP n (l.take k)))) (fun s8 _ => n - (intOf s8).toNat)
    case atStart => exact ⟨0, v3, rfl, Nat.zero_le _, W3_⟩
    case round =>
      obtain ⟨k, v, rfl, hk, hh⟩ := hrel
      by_cases hlt : k < n
      · obtain ⟨⟨r1, r2, r3, r4, r5, r6, r7, r8⟩, hr⟩ := HR.out.get hlt
        obtain ⟨bb, q, rfl, hb, hrow⟩ := (HR.out.bel hh.out.bel).at hlt hr
        have HNX := Lib.hid (encP_next (n := (n : Int)) hr)
        have HMY := Lib.hid ((may_iff _ _ _ _ _ _ _ _).1 (srt_le l 0 HOK.out.2.1 _ (List.mem_of_getElem? hr)).1)
        have HN8 := Lib.hid (show 0 ≤ r8 ∧ r8 ≤ 18446744073709551615 from HWD.out.at hr)
        have HN7 := Lib.hid (show 0 ≤ r7 ∧ r7 ≤ 18446744073709551615 from HWN.out _ (List.mem_of_getElem? hr))
        have HLE := Lib.hid (show (encP n (l.take k)).length + 90 ≤ 1048576 from by
          have h1 := encP_len n (l.take k)
          have h2 : (l.take k).length ≤ 10000 := by rw [List.length_take]; omega
          omega)
        have hlt3 : (k : Int) < n := by omega
        have hlt0 : (0 : Int) ≤ k := by omega
        have HROWW := Lib.hid (show w.rangeAt bb (q + k * 8) [.int .i64 r1, .int .i64 r2, .int .i64 r3, .int .i64 r4, .int .i64 r5, .int .i64 r6, .int .u64 r7, .int .u64 r8] from by
          obtain ⟨b0, o0, e0, _, hc0⟩ := HR.out.at hlt hr
          injection e0 with e0
          injection e0 with e1 e2
          subst e1 e2
          exact hc0)
        obtain ⟨zs, hzs⟩ : ∃ zs, encP n (l.take k) = zs := ⟨_, rfl⟩
        rw [hzs] at hh HNX HLE
        clear hzs hr hrow
        have L4 := Lib.hid (show zs.length ≤ zs.length + 0 by omega)
        have W4_ := hh
        have c0 := (rng8 (Pm.rng_bel HROWW.out W4_.out.bel)).1
        go_wp2_with fail
        refine (riN r1 W4_.out (by have := HMY.out; omega) (by have := HMY.out; omega) (by have := HLE.out; have := L4.out; omega)).mono ?_
        rintro e w5 ⟨rfl, v5, h5, k5, y5⟩
        have W5_ := Lib.hid h5
        have L5 := Lib.hid (show (zs ++ enc r1).length ≤ zs.length + 10 by rw [List.length_append]; have := (enc_len r1).2; have := L4.out; omega)
        clear h5 k5 y5 c0
        have c1 := (rng8 (Pm.rng_bel HROWW.out W5_.out.bel)).2.1
        have c2 := (rng8 (Pm.rng_bel HROWW.out W5_.out.bel)).2.2.1
        have c3 := (rng8 (Pm.rng_bel HROWW.out W5_.out.bel)).2.2.2.1
        have c4 := (rng8 (Pm.rng_bel HROWW.out W5_.out.bel)).2.2.2.2.1
        go_wp2_with fail
        refine (riP r2 r3 r4 r5 W5_.out HMY.out.2.1 (by have := HLE.out; have := L5.out; omega)).mono ?_
        rintro e w6 ⟨rfl, v6, h6, k6, y6⟩
        have W6_ := Lib.hid h6
        have L6 := Lib.hid (show (zs ++ enc r1 ++ Sm.enc4 r2 r3 r4 r5).length ≤ zs.length + 50 by rw [List.length_append]; have := Sm.enc4_len r2 r3 r4 r5; have := L5.out; omega)
        clear h6 k6 y6 c1 c2 c3 c4
        have c5 := (rng8 (Pm.rng_bel HROWW.out W6_.out.bel)).2.2.2.2.2.1
        go_wp2_with fail
        refine (riN r6 W6_.out (by have := HMY.out.2.2.1; omega) (by have := HMY.out.2.2.1; omega) (by have := HLE.out; have := L6.out; omega)).mono ?_
        rintro e w7 ⟨rfl, v7, h7, k7, y7⟩
        have W7_ := Lib.hid h7
        have L7 := Lib.hid (show (zs ++ enc r1 ++ Sm.enc4 r2 r3 r4 r5 ++ enc r6).length ≤ zs.length + 60 by rw [List.length_append]; have := (enc_len r6).2; have := L6.out; omega)
        clear h7 k7 y7 c5
        have c6 := (rng8 (Pm.rng_bel HROWW.out W7_.out.bel)).2.2.2.2.2.2.1
        go_wp2_with fail
        refine (riU r7 W7_.out HN7.out.1 HN7.out.2 (by have := HLE.out; have := L7.out; omega)).mono ?_
        rintro e w8 ⟨rfl, v8, h8, k8, y8⟩
        have W8_ := Lib.hid h8
        have L8 := Lib.hid (show (zs ++ enc r1 ++ Sm.enc4 r2 r3 r4 r5 ++ enc r6 ++ enc r7).length ≤ zs.length + 70 by rw [List.length_append]; have := (enc_len r7).2; have := L7.out; omega)
        clear h8 k8 y8 c6
        have c7 := (rng8 (Pm.rng_bel HROWW.out W8_.out.bel)).2.2.2.2.2.2.2
        go_wp2_with fail
        refine (riU r8 W8_.out HN8.out.1 HN8.out.2 (by have := HLE.out; have := L8.out; omega)).mono ?_
        rintro e w9 ⟨rfl, v9, h9, k9, y9⟩
        have W9_ := Lib.hid h9
        clear h9 k9 y9 c7
        go_wp2_with fail
        go_roundw
        case rel => exact ⟨k + 1, v9, by go_num, by omega, Lib.hid (by rw [HNX.out]; exact W9_.out)⟩
        case measure => simp [intOf]; omega
      · obtain rfl : k = n := by omega
        have HL := Lib.hid (show encP k (l.take k) = encL l from by
          rw [List.take_of_length_le (by rw [HLN.out]; exact Nat.le_refl _)]
          unfold encP encL
          rw [HLN.out])
        rw [HL.out] at hh
        have DN := Lib.hid (doneR b 1048576 v (encL l, 0) b wr hh.out.ws)
        go_wp2_with fail
        refine (DN.out).mono ?_
        rintro e w8 ⟨u, rfl, hu⟩
        have HU := Lib.hid (show Fresh w w8 u (encL l) from ⟨owns_mono hu.1 (Below.size hh.out.bel), hh.out.bel.trans hu.2⟩)
        clear hu
        go_wp2_with fail
        go_ret2
        exact ⟨u, rfl, HU.out⟩
  · rw [if_neg h0]
    have hne : (e1 != 0) = true := by rw [bne_iff_ne]; exact h0
    clear h0
    go_enter Tryz.func6, Tryz.ntmps6
    go_wp2_with fail
    refine CK.out.mono ?_
    rintro e w1 ⟨rfl, kb⟩
    have K1 := Lib.hid (show Bel w w1 from kb)
    clear kb CK
    go_wp2_with fail
    go_ret2
    exact ⟨_, rfl, World.ownsRow_nil _ _ _ _, K1.out⟩
end Qu
end Go.Proofs.YtcefjigbaglmeaaGreat
end
