/-
  What U and N of a writer answer in this program, told with where the writer's row lies afterwards (where it lay, or in new memory), and for a writer with an error, too.
  Conditions: the writer is one that NewWriter made; a word; a number that is not negative.
-/
import Derived.Test.YtcefjigbaglmeaaGreatGWriter2
namespace Go.Proofs.YtcefjigbaglmeaaGreat
open Go.RowKit Go.Shelf
set_option linter.unusedVariables false
namespace Cd

/-- As After, with the row's place. -/
def After3 (w0 w : World) (b : Nat) (L r : Int) (v0 : Value) (out more : List Int) (base : Nat) : Prop :=
  (r = 0 ∧ ((out ++ more).length : Int) ≤ L ∧ ∃ v, WS w b L v 0 (out ++ more) base ∧ (v.ownBlock = v0.ownBlock ∨ ∀ g, v.ownBlock = some g → w0.heap.size ≤ g)) ∨ (r = 4 ∧ L < ((out ++ more).length : Int) ∧ WS w b L (.slice none 0 0) 4 [] base)
theorem After3.older {w0 w1 w : World} {b : Nat} {L r : Int} {v0 : Value} {out more : List Int} {base : Nat} (h : After3 w1 w b L r v0 out more base) (hs : w0.heap.size ≤ w1.heap.size) : After3 w0 w b L r v0 out more base := by
  rcases h with ⟨h1, h2, v, h3, h4⟩ | h
  · exact .inl ⟨h1, h2, v, h3, h4.imp id (fun h g hg => Nat.le_trans hs (h g hg))⟩
  · exact .inr h
set_option maxRecDepth 100000 in
set_option maxHeartbeats 2000000 in
theorem write3 (b : Nat) (L : Int) (v : Value) (out : List Int) (base P : Nat) (ps : List (Option Addr × Nat × Nat × List Int)) (w : World) (h : WS w b L v 0 out base) (hP : Parts w P ps)
    (hb : P ≠ b) (hbv : v.ownBlock ≠ some P) (hps : ∀ (i : Nat) (A : Option Addr) (n c : Nat) (zs : List Int), ps[i]? = some (A, n, c, zs) → ∀ x : Addr, A = some x → x.block ≠ b ∧ v.ownBlock ≠ some x.block) (hl : ∀ (i : Nat) (A : Option Addr) (n c : Nat) (zs : List Int), ps[i]? = some (A, n, c, zs) → n ≤ 1000000000) (hk : ps.length ≤ 10) :
    Calls Tryz.prog 57 #[.pointer (some ⟨b, 0, none⟩), .slice (some ⟨P, 0, none⟩) ps.length ps.length] w fun e w' => ∃ r, e = .returned (.int .i64 r) ∧ After3 w w' b L r v out (flat ps ps.length) base ∧ Kep (Own2 b v) w w' := by
  have ST := Lib.hid (wstate b L v 0 out base w h)
  have H := Lib.hid h
  have HP := Lib.hid hP
  have HN := Lib.hid hps
  have HL := Lib.hid hl
  have h1 := h.high
  have h2 := h.low
  clear h hP hps hl
  go_enter Tryz.func57, Tryz.ntmps57
  go_wp2_with fail
  refine (ST.out).mono ?_
  rintro e w1 ⟨rfl, rfl⟩
  go_wp2_with fail
  go_loopw [15] (fun i wr => ∃ (k : Nat) (u : Value), i = .int .i64 k ∧ k ≤ ps.length ∧ WS wr b L u 0 (out ++ flat ps k) base ∧ Kep (Own2 b v) w wr ∧ (u.ownBlock = v.ownBlock ∨ ∀ g, u.ownBlock = some g → w.heap.size ≤ g)) (fun i _ => ps.length - (intOf i).toNat)
  case atStart => exact ⟨0, v, rfl, Nat.zero_le _, by simpa [flat] using H.out, Kep.refl _ _, .inl rfl⟩
  case round =>
    obtain ⟨k, u, rfl, hkn, hws, hkp, hu⟩ := hrel
    have HW := Lib.hid hws
    have HK := Lib.hid hkp
    have HU := Lib.hid hu
    clear hws hkp hu
    by_cases hlt : k < ps.length
    · obtain ⟨A, n, c, zs, hpk⟩ : ∃ A n c zs, ps[k]? = some (A, n, c, zs) := ⟨_, _, _, _, List.getElem?_eq_getElem hlt⟩
      have HPK := Lib.hid hpk
      have hcell : wr.cell? ⟨P, k, none⟩ = some (.slice A n c) := HK.out.cell (by rintro (h | h); exact hb h; exact hbv h) (HP.out k A n c zs hpk).1
      have HSL : Hid (Sl wr A n c zs) := ⟨HK.out.ints (fun x hx hs => by rcases hs with h | h; exact (HN.out k A n c zs hpk x hx).1 h; exact (HN.out k A n c zs hpk x hx).2 h) (HP.out k A n c zs hpk).2.ints, (HP.out k A n c zs hpk).2.cap, (HP.out k A n c zs hpk).2.nil⟩
      have hn := HL.out k A n c zs hpk
      obtain ⟨Au, cu, hvu, hsu⟩ := sl_of_own HW.out.row
      subst hvu
      have c1 : wr.cell? ⟨b, 1, none⟩ = some (.int .i64 L) := HW.out.blk.cell 1 rfl
      have c2 : wr.cell? ⟨b, 2, none⟩ = some (.slice Au (out ++ flat ps k).length cu) := HW.out.blk.cell 2 rfl
      have hfit := HW.out.fits
      clear hpk hsu
      generalize hlen : (out ++ flat ps k).length = m at *
      have HM := Lib.hid hlen
      clear hlen
      by_cases hx : L - (m : Int) < (n : Int)
      · have hm1 : (m : Int) ≤ L := hfit
        have e1 : IntKind.i64.wrap (L - (m : Int)) = L - (m : Int) := IntWalk.i64_in _ (by omega)
        have WF := Lib.hid (fun w' (h : WS w' b L (.slice Au m cu) 0 (out ++ flat ps k) base) => wfail b L _ _ base 4 w' h)
        have hd : decide (L - (m : Int) < (n : Int)) = true := decide_eq_true hx
        have HX := Lib.hid hx
        clear hx
        go_wp2_with fail
        go_region
        all_goals
          clear e1
          go_wp2_with fail
          refine (WF.out _ (HW.out.bel ((Bel.refl _).drew))).mono ?_
          rintro e w2 ⟨rfl, hw2, k2⟩
          go_wp2
          go_ret
          refine ⟨4, rfl, .inr ⟨rfl, ?_, hw2⟩, (HK.out.trans (Kep.of_bel ((Bel.refl _).drew))).trans (k2.mono fun i _ hi => .inl hi)⟩
          have h3 := flat_le ps (k := k + 1) (m := ps.length) hlt
          rw [flat_succ HPK.out] at h3
          have h4 := HM.out
          have h5 := HX.out
          have h6 := HSL.out.ints.1
          simp only [List.length_append] at h3 h4 ⊢
          omega
      · have hm1 : (m : Int) ≤ L := hfit
        have e1 : IntKind.i64.wrap (L - (m : Int)) = L - (m : Int) := IntWalk.i64_in _ (by omega)
        have hd : decide (L - (m : Int) < (n : Int)) = false := decide_eq_false hx
        have HX := Lib.hid hx
        have HROW := Lib.hid (show wr.drew.ownsRow base 5 1 (.slice Au m cu) m ((out ++ flat ps k).map (Value.int .u8)) by have := HW.out.row; rw [HM.out] at this; exact this)
        have HSD := Lib.hid (HSL.out.bel ((Bel.refl wr).drew))
        have HBB := Lib.hid (show Blk wr.drew b _ _ from HW.out.blk.bel ((Bel.refl wr).drew))
        have HNR := Lib.hid (HBB.out.not_row (by decide) HROW.out)
        have hmn : m + n ≤ 1000000000000 := by omega
        have HBS := Lib.hid HW.out.base
        clear hx
        go_wp2_with fail
        go_region
        all_goals
          clear e1
          go_wp2_with (at_builtin; refine wpList_append_at rfl _ _ rfl base _ m _ rfl HROW.out A n c zs rfl HSD.out hmn HBS.out ?_; intro v' w2 hown2 hgrow hat; obtain ⟨Av, cv, hv⟩ : ∃ Av cv, v' = .slice Av (m + n) cv := slice_of_own hown2; subst hv; have HO2 := Lib.hid hown2; have HG := Lib.hid hgrow; have HAT := Lib.hid hat; have HB2 := Lib.hid (show Blk w2 b _ _ from (hgrow.block b HBB.out.lt (fun e => HNR.out e.symm)).trans HBB.out); clear hown2 hgrow hat; have c2' : w2.cell? ⟨b, 2, none⟩ = some (.slice Au m cu) := HB2.out.cell 2 rfl; have f2' := HB2.out.frozen 2)
          go_roundw
          case rel =>
            have hout : out ++ flat ps (k + 1) = (out ++ flat ps k) ++ zs := by rw [flat_succ HPK.out, List.append_assoc]
            have hll : (out ++ flat ps (k + 1)).length = m + n := by rw [hout, List.length_append, HM.out, HSL.out.ints.1]
            have hrow : w2.ownsRow base 5 1 (.slice Av (m + n) cv) (out ++ flat ps (k + 1)).length ((out ++ flat ps (k + 1)).map (Value.int .u8)) := by
              rw [hll, hout, List.map_append]; exact HO2.out
            have hkk : Kep (Own2 b v) w w2 := by
              refine (HK.out.trans (Kep.of_bel ((Bel.refl _).drew))).grown HG.out (fun i hi hlt' => ?_)
              rcases HU.out with h | h
              · exact .inr (by rw [← h]; exact hi)
              · have := h i hi; omega
            have hsz : w.heap.size ≤ wr.drew.heap.size := Nat.le_trans HK.out.size (Nat.le_refl _)
            refine ⟨k + 1, .slice Av (m + n) cv, by go_num, hlt, ⟨HB2.out.set 2 _, owns_set hrow (HB2.out.not_row (by decide) hrow) 2 _, h2, h1, by have hx := HX.out; rw [hll]; omega, ?_⟩, hkk.set (.inl rfl) _, ?_⟩
            · exact Nat.le_trans HBS.out (Nat.le_trans HG.out.size (Kep.set (S := fun i => i = b) (Kep.refl _ w2) (b := b) (o := 2) rfl _).size)
            · rcases HAT.out with h | h
              · rcases HU.out with h' | h'
                · exact .inl (h.trans h')
                · exact .inr fun g hg => h' g (h ▸ hg)
              · refine .inr fun g hg => ?_
                rw [h] at hg
                injection hg with hg
                omega
          case measure => simp [intOf]; omega
    · obtain rfl : k = ps.length := by omega
      go_wp2
      go_ret
      exact ⟨0, rfl, .inl ⟨rfl, HW.out.fits, _, HW.out, HU.out⟩, HK.out⟩

set_option maxRecDepth 100000 in
set_option maxHeartbeats 1000000 in
theorem wU3 (b : Nat) (L : Int) (v : Value) (out : List Int) (base : Nat) (x : Int) (w : World) (h : WS w b L v 0 out base) (x0 : 0 ≤ x) (x1 : x ≤ 18446744073709551615) :
    Calls Tryz.prog 23 #[.pointer (some ⟨b, 0, none⟩), .int .u64 x] w fun e w' => ∃ r, e = .returned (.int .i64 r) ∧ After3 w w' b L r v out (enc x) base ∧ Kep (Own2 b v) w w' := by
  have P1 := Lib.hid (fun w' => put x w' x0 x1)
  have H := Lib.hid h
  have hl := (enc_len x).2
  clear h x1
  go_enter Tryz.func23, Tryz.ntmps23
  go_wp2_with fail
  refine (P1.out _).mono ?_
  rintro e w1 ⟨u, rfl, ou, b1⟩
  have b1 : Bel w w1 := b1
  obtain ⟨A, c, hu, hs⟩ := sl_of_own ou
  subst hu
  have hge := own_block_ge ou
  have HS := Lib.hid hs
  have hlt1 : w.heap.size ≤ w1.heap.size := Below.size b1
  have hbl := H.out.blk.lt
  have hrl := H.out.row_lt
  have WR := Lib.hid (write3 b L v out base w1.heap.size [(A, (enc x).length, c, enc x)] _ (H.out.bel (b1.alloc (.cells #[.slice A (enc x).length c] 23))) (parts_one (Blk.new w1 _ _) (hs.bel ((Bel.refl _).alloc _))) (by omega) (fun e => by have := hrl _ e; omega)
    (by
      intro i A' n' c' zs' hi y hy
      match i, hi with
      | 0, hi =>
        simp at hi
        obtain ⟨rfl, rfl, rfl, rfl⟩ := hi
        have := hge y hy
        exact ⟨by omega, fun e => by have := hrl _ e; omega⟩)
    (by
      intro i A' n' c' zs' hi
      match i, hi with
      | 0, hi => simp at hi; omega) (by simp))
  clear hs ou hge hrl
  go_wp2_with fail
  refine (WR.out).mono ?_
  rintro e w2 ⟨r, rfl, ha, hk⟩
  have HA := Lib.hid ha
  have HK := Lib.hid ((Kep.of_bel (b1.alloc (.cells #[.slice A (enc x).length c] 23))).trans hk)
  clear ha hk
  go_wp2
  go_ret
  have h1 := HA.out
  rw [show flat [(A, (enc x).length, c, enc x)] [(A, (enc x).length, c, enc x)].length = enc x by simp [flat]] at h1
  exact ⟨r, rfl, h1.older (Nat.le_trans hlt1 (Below.size ((Bel.refl w1).alloc _))), HK.out⟩

set_option maxRecDepth 100000 in
set_option maxHeartbeats 1000000 in
theorem wN3 (b : Nat) (L : Int) (v : Value) (out : List Int) (base : Nat) (x : Int) (w : World) (h : WS w b L v 0 out base) (x0 : 0 ≤ x) (x1 : x ≤ 9223372036854775807) :
    Calls Tryz.prog 21 #[.pointer (some ⟨b, 0, none⟩), .int .i64 x] w fun e w' => ∃ r, e = .returned (.int .i64 r) ∧ After3 w w' b L r v out (enc x) base ∧ Kep (Own2 b v) w w' := by
  have ST := Lib.hid (wstate b L v 0 out base w h)
  have WU := Lib.hid (wU3 b L v out base x w h x0 (by omega))
  clear h
  go_enter Tryz.func21, Tryz.ntmps21
  go_wp2_with fail
  refine (ST.out).mono ?_
  rintro e w1 ⟨rfl, rfl⟩
  go_wp2_with fail
  refine (WU.out).mono ?_
  rintro e w2 ⟨r, rfl, ha, hk⟩
  have HA := Lib.hid ha
  have HK := Lib.hid hk
  clear ha hk
  go_wp2
  go_ret
  exact ⟨r, rfl, HA.out, HK.out⟩


set_option maxRecDepth 100000 in
theorem wN_err (b : Nat) (L : Int) (v : Value) (r : Int) (out : List Int) (base : Nat) (x : Int) (w : World) (h : WS w b L v r out base) (hr : r ≠ 0) :
    Calls Tryz.prog 21 #[.pointer (some ⟨b, 0, none⟩), .int .i64 x] w fun e w' => e = .returned (.int .i64 r) ∧ w = w' := by
  have ST := Lib.hid (wstate b L v r out base w h)
  have f : (r != 0) = true := by rw [bne_iff_ne]; exact hr
  clear h hr
  go_enter Tryz.func21, Tryz.ntmps21
  go_wp2_with fail
  refine (ST.out).mono ?_
  rintro e w1 ⟨rfl, rfl⟩
  go_wp2
  go_ret
  exact ⟨rfl, rfl⟩

/-- What a writer is behind more bytes. -/
def stp (L : Int) (s : List Int × Int) (more : List Int) : List Int × Int := if s.2 ≠ 0 then s else if ((s.1 ++ more).length : Int) ≤ L then (s.1 ++ more, 0) else ([], 4)
/-- The row lies where it lay, or in new memory. -/
def Lies (w : World) (v v' : Value) : Prop := ∀ g, v'.ownBlock = some g → v.ownBlock = some g ∨ w.heap.size ≤ g
theorem Lies.refl (w : World) (v : Value) : Lies w v v := fun _ h => .inl h
theorem Lies.trans {w w1 : World} {v v1 v2 : Value} (h : Lies w v v1) (k : Lies w1 v1 v2) (hs : w.heap.size ≤ w1.heap.size) : Lies w v v2 := fun g hg => by
  rcases k g hg with h' | h'
  · exact h g h'
  · exact .inr (Nat.le_trans hs h')
theorem kep_lies {w w1 w2 : World} {b : Nat} {v v1 : Value} (h : Kep (Own2 b v) w w1) (hl : Lies w v v1) (k : Kep (Own2 b v1) w1 w2) : Kep (Own2 b v) w w2 :=
  ⟨k.os.trans h.os, k.tape.trans h.tape, k.output.trans h.output, Nat.le_trans h.size k.size, fun i hi hS => by
    have h1 := h.block i hi hS
    refine (k.block i (Nat.lt_of_lt_of_le hi h.size) (fun h' => ?_)).trans h1
    rcases h' with rfl | h'
    · exact hS (.inl rfl)
    · rcases hl i h' with h'' | h''
      · exact hS (.inr h'')
      · omega⟩
/-- N of any writer. -/
theorem nAny (b : Nat) (L : Int) (v : Value) (s : List Int × Int) (base : Nat) (x : Int) (w : World) (h : WS w b L v s.2 s.1 base) (x0 : 0 ≤ x) (x1 : x ≤ 9223372036854775807) :
    Calls Tryz.prog 21 #[.pointer (some ⟨b, 0, none⟩), .int .i64 x] w fun e w' => e = .returned (.int .i64 (stp L s (enc x)).2) ∧ ∃ v', WS w' b L v' (stp L s (enc x)).2 (stp L s (enc x)).1 base ∧ Lies w v v' ∧ Kep (Own2 b v) w w' := by
  obtain ⟨out, e⟩ := s
  by_cases he : e = 0
  · subst he
    refine (wN3 b L v out base x w h x0 x1).mono ?_
    rintro r w' ⟨r', rfl, ha, hk⟩
    rcases ha with ⟨rfl, h1, v', h2, h3⟩ | ⟨rfl, h1, h2⟩
    · have e1 : stp L (out, 0) (enc x) = (out ++ enc x, 0) := by unfold stp; rw [if_neg (by simp), if_pos h1]
      rw [e1]
      exact ⟨rfl, v', h2, fun g hg => h3.imp (fun h => by rw [← h]; exact hg) (fun h => h g hg), hk⟩
    · have e1 : stp L (out, 0) (enc x) = ([], 4) := by unfold stp; rw [if_neg (by simp), if_neg (by show ¬ (((out ++ enc x).length : Nat) : Int) ≤ L; omega)]
      rw [e1]
      exact ⟨rfl, _, h2, fun g hg => by simp [Value.ownBlock] at hg, hk⟩
  · refine (wN_err b L v e out base x w h he).mono ?_
    rintro r w' ⟨rfl, rfl⟩
    have e1 : stp L (out, e) (enc x) = (out, e) := by unfold stp; rw [if_pos he]
    rw [e1]
    exact ⟨rfl, v, h, Lies.refl _ _, Kep.refl _ _⟩
end Cd
end Go.Proofs.YtcefjigbaglmeaaGreat
