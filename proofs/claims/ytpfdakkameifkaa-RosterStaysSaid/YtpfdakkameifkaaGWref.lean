/-
  What the reference's writer answers: NewWriter, Add, N, Done. Conditions: the writer is one that the reference's NewWriter made; bytes that lie apart from it; numbers that are not negative.
-/
import Derived.Test.YtpfdakkameifkaaGWriter3
import Derived.Test.YtpfdakkameifkaaGRef02
namespace Go.Proofs.Ytpfdakkameifkaa
open Go.RowKit Go.Shelf
set_option linter.unusedVariables false
namespace Cd

/-- The reference's writer: where it lies, its limit, its row, its error. -/
structure RW (w : World) (b : Nat) (L : Int) (v : Value) (err : Int) (out : List Int) (base : Nat) : Prop where
  blk : Blk w b #[.int .i64 L, v, .int .i64 err] 113
  row : w.ownsRow base 5 1 v out.length (out.map (Value.int .u8))
  low : 0 ≤ L
  high : L ≤ 1048576
  fits : (out.length : Int) ≤ L
  base : base ≤ w.heap.size
theorem RW.kep {S : Nat → Prop} {w w' : World} {b : Nat} {L : Int} {v : Value} {err : Int} {out : List Int} {base : Nat} (h : RW w b L v err out base) (hk : Kep S w w') (h1 : ¬ S b) (h2 : ∀ k, v.ownBlock = some k → ¬ S k) : RW w' b L v err out base :=
  ⟨h.blk.kep hk h1, hk.owns h2 h.row, h.low, h.high, h.fits, Nat.le_trans h.base hk.size⟩
theorem RW.bel {w w' : World} {b : Nat} {L : Int} {v : Value} {err : Int} {out : List Int} {base : Nat} (h : RW w b L v err out base) (hk : Bel w w') : RW w' b L v err out base :=
  h.kep (S := fun _ => False) (Kep.of_bel hk) id (fun _ _ => id)

theorem newR_no (L : Int) (w : World) (h : L < 0 ∨ 1048576 < L) :
    Calls Try.prog 75 #[.int .i64 L] w fun e w' => e = .returned (.tuple #[.pointer none, .int .i64 3]) ∧ w = w' := by
  by_cases h0 : L < 0
  · go_enter Try.func75, Try.ntmps75
    go_wp2
    go_ret2
    exact ⟨rfl, rfl⟩
  · have h1 : 1048576 < L := by omega
    clear h
    go_enter Try.func75, Try.ntmps75
    go_wp2
    go_ret2
    exact ⟨rfl, rfl⟩
theorem newR (L : Int) (w : World) (h0 : 0 ≤ L) (h1 : L ≤ 1048576) :
    Calls Try.prog 75 #[.int .i64 L] w fun e w' => e = .returned (.tuple #[.pointer (some ⟨w.heap.size, 0, none⟩), .int .i64 0]) ∧ RW w' w.heap.size L (.slice none 0 0) 0 [] w.heap.size ∧ Bel w w' := by
  go_enter Try.func75, Try.ntmps75
  go_wp2
  go_ret2
  exact ⟨rfl, ⟨Blk.new _ _ _, World.ownsRow_nil _ _ _ _, h0, h1, h0, by simp⟩, (Bel.refl _).alloc _⟩

/-- What the reference's writer is behind more bytes. -/
def stpR (L : Int) (s : List Int × Int) (more : List Int) : List Int × Int := if s.2 ≠ 0 then s else if ((s.1 ++ more).length : Int) ≤ L then (s.1 ++ more, 0) else (s.1, 4)
/-- Both writers stand alike. -/
def Alike (s t : List Int × Int) : Prop := s.2 = t.2 ∧ (s.2 = 0 → s.1 = t.1)
theorem Alike.stp {s t : List Int × Int} (h : Alike s t) (L : Int) (more : List Int) : Alike (stp L s more) (stpR L t more) := by
  obtain ⟨a, e⟩ := s
  obtain ⟨b, f⟩ := t
  obtain ⟨h1, h2⟩ := h
  have h1 : e = f := h1
  subst h1
  by_cases he : e = 0
  · have h2 : a = b := h2 he
    subst h2 he
    by_cases hl : ((a ++ more).length : Int) ≤ L
    · rw [show Cd.stp L (a, 0) more = (a ++ more, 0) by unfold Cd.stp; rw [if_neg (by simp), if_pos hl], show stpR L (a, 0) more = (a ++ more, 0) by unfold stpR; rw [if_neg (by simp), if_pos hl]]
      exact ⟨rfl, fun _ => rfl⟩
    · rw [show Cd.stp L (a, 0) more = ([], 4) by unfold Cd.stp; rw [if_neg (by simp), if_neg hl], show stpR L (a, 0) more = (a, 4) by unfold stpR; rw [if_neg (by simp), if_neg hl]]
      exact ⟨rfl, fun h => by cases h⟩
  · rw [show Cd.stp L (a, e) more = (a, e) by unfold Cd.stp; rw [if_pos he], show stpR L (b, e) more = (b, e) by unfold stpR; rw [if_pos he]]
    exact ⟨rfl, fun h => absurd h he⟩

set_option maxRecDepth 100000 in
set_option maxHeartbeats 2000000 in
theorem addR (b : Nat) (L : Int) (v : Value) (s : List Int × Int) (base : Nat) (A : Option Addr) (n c : Nat) (zs : List Int) (w : World) (h : RW w b L v s.2 s.1 base) (hs : Sl w A n c zs) (hn : n ≤ 1000000) :
    Calls Try.prog 99 #[.pointer (some ⟨b, 0, none⟩), .slice A n c] w fun e w' => e = .returned (.int .i64 (stpR L s zs).2) ∧ ∃ v', RW w' b L v' (stpR L s zs).2 (stpR L s zs).1 base ∧ Lies w v v' ∧ Kep (Own2 b v) w w' := by
  obtain ⟨out, e⟩ := s
  obtain ⟨Ao, co, hv, hso⟩ := sl_of_own h.row
  subst hv
  obtain ⟨k, hk⟩ : ∃ k, out.length = k := ⟨_, rfl⟩
  have H := Lib.hid h
  have HS := Lib.hid hs
  have HK := Lib.hid hk
  have hfit := h.fits
  have hlow := h.low
  have hhigh := h.high
  have hzl := hs.len
  have k0 : w.cell? ⟨b, 0, none⟩ = some (.int .i64 L) := h.blk.cell 0 rfl
  have k1 : w.cell? ⟨b, 1, none⟩ = some (.slice Ao out.length co) := h.blk.cell 1 rfl
  have k2 : w.cell? ⟨b, 2, none⟩ = some (.int .i64 e) := h.blk.cell 2 rfl
  have g1 := h.blk.frozen 1
  have g2 := h.blk.frozen 2
  have hfit : (out.length : Int) ≤ L := hfit
  rw [hk] at k1 hfit
  have SE := Lib.hid (show stpR L (out, e) zs = if e ≠ 0 then (out, e) else if ((k : Int) + n) ≤ L then (out ++ zs, 0) else (out, 4) by
    unfold stpR
    rw [show (((out ++ zs).length : Nat) : Int) = (k : Int) + n by rw [List.length_append, hk, hzl]; push_cast; rfl])
  obtain ⟨T, hT⟩ : ∃ T, stpR L (out, e) zs = T := ⟨_, rfl⟩
  rw [hT] at SE ⊢
  clear h hs hso hk hT
  by_cases he : e = 0
  · subst he
    have SE := Lib.hid (SE.out.trans (if_neg (by simp)))
    have e1 : IntKind.i64.wrap ((k : Int) + n) = (k : Int) + n := IntWalk.i64_in _ (by omega)
    by_cases hl : (k : Int) + n ≤ L
    · obtain rfl : T = (out ++ zs, 0) := SE.out.trans (if_pos hl)
      have hd : decide (L < (k : Int) + n) = false := decide_eq_false (by omega)
      have HROW := Lib.hid (show w.drew.ownsRow base 5 1 (.slice Ao k co) k (out.map (Value.int .u8)) by have := H.out.row; rw [HK.out] at this; exact this)
      have HSD := Lib.hid (HS.out.bel ((Bel.refl w).drew))
      have HBB := Lib.hid (show Blk w.drew b _ _ from H.out.blk.bel ((Bel.refl w).drew))
      have HNR := Lib.hid (HBB.out.not_row (by decide) HROW.out)
      have hmn : k + n ≤ 1000000000000 := by omega
      have HBS := Lib.hid H.out.base
      go_enter Try.func99, Try.ntmps99
      go_wp2_with fail
      go_region
      go_wp2_with (at_builtin; refine wpList_append_at rfl _ _ rfl base _ k _ rfl HROW.out A n c zs rfl HSD.out hmn HBS.out ?_; intro v' w2 hown2 hgrow hat; obtain ⟨Av, cv, hv⟩ : ∃ Av cv, v' = .slice Av (k + n) cv := slice_of_own hown2; subst hv; have HO2 := Lib.hid hown2; have HG := Lib.hid (show w.drew.grownBy w2 (Value.slice Ao k co).ownBlock from hgrow); have HAT := Lib.hid (show (Value.slice Av (k + n) cv).ownBlock = (Value.slice Ao k co).ownBlock ∨ (Value.slice Av (k + n) cv).ownBlock = some w.drew.heap.size from hat); have HB2 := Lib.hid (show Blk w2 b _ _ from (hgrow.block b HBB.out.lt (fun e => HNR.out e.symm)).trans HBB.out); clear hown2 hgrow hat; have c2' : w2.cell? ⟨b, 2, none⟩ = some (.int .i64 0) := HB2.out.cell 2 rfl; have c1' : w2.cell? ⟨b, 1, none⟩ = some (.slice Ao out.length co) := HB2.out.cell 1 rfl; have f1' := HB2.out.frozen 1)
      go_ret
      have hll : (out ++ zs).length = k + n := by rw [List.length_append, HK.out, hzl]
      have hrow : w2.ownsRow base 5 1 (.slice Av (k + n) cv) (out ++ zs).length ((out ++ zs).map (Value.int .u8)) := by rw [hll, List.map_append]; exact HO2.out
      have hkk : Kep (Own2 b (.slice Ao out.length co)) w w2 := (Kep.of_bel ((Bel.refl _).drew)).grown HG.out (fun i hi hlt' => .inr (by rw [HK.out]; exact hi))
      refine ⟨rfl, .slice Av (k + n) cv, ⟨HB2.out.set 1 _, owns_set hrow (HB2.out.not_row (by decide) hrow) 1 _, hlow, hhigh, ?_, ?_⟩, fun g hg => ?_, hkk.set (.inl rfl) _⟩
      · show ((((out ++ zs).length : Nat)) : Int) ≤ L
        rw [hll]; push_cast; omega
      · exact Nat.le_trans HBS.out (Nat.le_trans HG.out.size (Kep.set (S := fun i => i = b) (Kep.refl _ w2) (b := b) (o := 1) rfl _).size)
      · rcases HAT.out with h | h
        · rw [h] at hg; exact .inl (by rw [HK.out]; exact hg)
        · rw [h] at hg; injection hg with hg; exact .inr (by rw [← hg]; exact Nat.le_refl _)
    · obtain rfl : T = (out, 4) := SE.out.trans (if_neg hl)
      have hd : decide (L < (k : Int) + n) = true := decide_eq_true (by omega)
      go_enter Try.func99, Try.ntmps99
      go_wp2_with fail
      go_region
      go_wp2_with fail
      go_ret
      have hk : Kep (Own2 b (.slice Ao out.length co)) w (w.drew.setCell ⟨b, 2, none⟩ (.int .i64 4)) := (Kep.of_bel ((Bel.refl _).drew)).set (.inl rfl) _
      exact ⟨rfl, .slice Ao out.length co, ⟨(H.out.blk.bel (Bel.refl _).drew).set 2 _, owns_set (H.out.bel (Bel.refl _).drew).row ((H.out.blk.bel (Bel.refl _).drew).not_row (by decide) (H.out.bel (Bel.refl _).drew).row) 2 _, hlow, hhigh, H.out.fits, Nat.le_trans H.out.base hk.size⟩, Lies.refl _ _, hk⟩
  · obtain rfl : T = (out, e) := SE.out.trans (if_pos he)
    have he1 : (e == 0) = false := beq_eq_false_iff_ne.2 he
    clear he
    go_enter Try.func99, Try.ntmps99
    go_wp2_with fail
    go_region
    go_wp2_with fail
    go_ret
    exact ⟨rfl, .slice Ao out.length co, H.out.bel (Bel.refl _).drew, Lies.refl _ _, Kep.of_bel (Bel.refl _).drew⟩

set_option maxHeartbeats 1000000 in
theorem nR (b : Nat) (L : Int) (v : Value) (s : List Int × Int) (base : Nat) (x : Int) (w : World) (h : RW w b L v s.2 s.1 base) (x0 : 0 ≤ x) (x1 : x ≤ 9223372036854775807) :
    Calls Try.prog 76 #[.pointer (some ⟨b, 0, none⟩), .int .i64 x] w fun e w' => e = .returned (.int .i64 (stpR L s (enc x)).2) ∧ ∃ v', RW w' b L v' (stpR L s (enc x)).2 (stpR L s (enc x)).1 base ∧ Lies w v v' ∧ Kep (Own2 b v) w w' := by
  have PX := Lib.hid (fun V => ref_put x V x0 (by omega))
  have AD := Lib.hid (fun V A n c (hv : Bel w V) (hs : Sl V A n c (enc x)) (hn : n ≤ 1000000) => addR b L v s base A n c (enc x) V (h.bel hv) hs hn)
  have e5 : IntKind.u64.wrap x = x := by rw [IntKind.wrap_u64]; omega
  have hl := (enc_len x).2
  obtain ⟨T, hT⟩ : ∃ T, stpR L s (enc x) = T := ⟨_, rfl⟩
  obtain ⟨zx, hzx⟩ : ∃ zx, enc x = zx := ⟨_, rfl⟩
  rw [hT] at AD ⊢
  rw [hzx] at PX AD hl
  clear h hT hzx x1
  go_enter Try.func76, Try.ntmps76
  go_wp2_with fail
  refine (PX.out _).mono ?_
  rintro e w1 ⟨v1, rfl, hf⟩
  obtain ⟨A1, c1, rfl, hs⟩ := hf.sl
  have K1 := Lib.hid hf.2
  have AA := Lib.hid (AD.out w1 A1 zx.length c1 K1.out hs (by omega))
  clear hf hs AD
  go_wp2_with fail
  refine (AA.out).mono ?_
  rintro e w2 ⟨rfl, v', hw, hli, hk⟩
  have HR := Lib.hid (And.intro hw (And.intro (show Lies w v v' from fun g hg => (hli g hg).imp id (fun h => Nat.le_trans (Below.size K1.out) h)) (show Kep (Own2 b v) w w2 from (Kep.of_bel K1.out).trans hk)))
  clear hw hli hk
  go_wp2_with fail
  go_ret
  exact ⟨rfl, v', HR.out.1, HR.out.2.1, HR.out.2.2⟩

set_option maxHeartbeats 1000000 in
theorem doneR (b : Nat) (L : Int) (v : Value) (s : List Int × Int) (base : Nat) (w : World) (h : RW w b L v s.2 s.1 base) :
    Calls Try.prog 79 #[.pointer (some ⟨b, 0, none⟩)] w fun e w' => ∃ u, e = .returned (.tuple #[u, .int .i64 s.2]) ∧ Fresh w w' u (if s.2 = 0 then s.1 else []) := by
  obtain ⟨out, e⟩ := s
  obtain ⟨A, c, hv, hs⟩ := sl_of_own h.row
  subst hv
  have k1 : w.cell? ⟨b, 1, none⟩ = some (.slice A out.length c) := h.blk.cell 1 rfl
  have k2 : w.cell? ⟨b, 2, none⟩ = some (.int .i64 e) := h.blk.cell 2 rfl
  by_cases he : e = 0
  · subst he
    rw [show (if ((out, (0 : Int)).2 = 0) then (out, (0 : Int)).1 else []) = out from if_pos rfl]
    have CP := Lib.hid (copyBytes A out.length c out w hs (by have := h.fits; have := h.high; simp only at *; omega))
    clear h hs
    go_enter Try.func79, Try.ntmps79
    go_wp2_with fail
    refine (CP.out).mono ?_
    rintro e w1 ⟨u, rfl, hf⟩
    have HF := Lib.hid hf
    clear hf
    go_wp2_with fail
    go_ret2
    exact ⟨u, rfl, HF.out⟩
  · rw [show (if ((out, e).2 = 0) then (out, e).1 else []) = [] from if_neg he]
    have he1 : (e != 0) = true := by rw [bne_iff_ne]; exact he
    clear h hs he
    go_enter Try.func79, Try.ntmps79
    go_wp2_with fail
    go_region
    go_wp2_with fail
    go_ret2
    exact ⟨_, rfl, World.ownsRow_nil _ _ _ _, (Bel.refl _).drew⟩
end Cd
end Go.Proofs.Ytpfdakkameifkaa
