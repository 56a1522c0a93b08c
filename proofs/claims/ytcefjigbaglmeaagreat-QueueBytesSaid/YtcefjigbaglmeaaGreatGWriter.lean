/-
  What the methods of a writer answer in this program: what is written, or why not; nothing else is turned but the writer and its row.
  Conditions: the writer is one that NewWriter made; slices that read as bytes and share no memory with it.
-/
import Derived.Test.YtcefjigbaglmeaaGreatGObj
namespace Go.Proofs.YtcefjigbaglmeaaGreat
open Go.RowKit Go.Shelf
set_option linter.unusedVariables false
namespace Cd

theorem wpList_append_at {w : World} {ops : Array Oper} {rest : List Oper} {o : Oper} {a : Act} {Q : Exit → Act → World → Prop} (hgd : o.guard = none) (s x : Operand)
    (ho : o.op = .call { callee := .builtin .append, args := #[s, x], argTypes := #[23, 23] })
    (base : Nat) (v : Value) (k : Nat) (xs : List Value) (hs : a.eval s = v) (hown : w.ownsRow base 5 1 v k xs) (A : Option Addr) (m c : Nat) (zs : List Int) (hx : a.eval x = .slice A m c) (hi : Sl w A m c zs)
    (hm : k + m ≤ 1000000000000) (hb : base ≤ w.heap.size)
    (h : ∀ v' w', w'.ownsRow base 5 1 v' (k + m) (xs ++ zs.map (Value.int .u8)) → w.grownBy w' v.ownBlock → (v'.ownBlock = v.ownBlock ∨ v'.ownBlock = some w.heap.size) → wpList Tryz.prog ops Q rest (a.put o.dst v') w') : wpList Tryz.prog ops Q (o :: rest) a w := by
  obtain ⟨i0, h1, hz0, hz1, hz2⟩ := info_parts Tryz.info_u8
  cases A with
  | none =>
    obtain rfl : c = 0 := hi.nil rfl
    obtain rfl : m = 0 := by have := hi.cap; omega
    have hz : zs = [] := List.length_eq_zero_iff.1 hi.ints.1
    subst hz
    refine wpList_append_own_none hgd s x 23 ho base 5 i0 1 Tryz.underlying23 h1 v k xs hs hown hx ?_
    exact h v w (by simpa using hown) ⟨rfl, rfl, rfl, Nat.le_refl _, fun _ _ _ => rfl⟩ (.inl rfl)
  | some ad =>
    refine wpList_append_own_at w hgd s x 23 ho base 5 i0 (.int .u8 0) 1 1 Tryz.underlying23 h1 hz0 hz1 hz2 rfl (by decide) v k xs hs hown ad m c (zs.map (Value.int .u8)) hx (by have := hi.ints.1; simp; omega) (Ints.news hi.ints) (ints_ok zs) (by unfold maxLen; omega) (by omega) hb ?_
    intro v' w' h2 h3 _ h4
    exact h v' w' h2 h3 h4

theorem slice_of_own {w : World} {base : Nat} {e : TypeId} {size : Nat} {v : Value} {n : Nat} {xs : List Value} (h : w.ownsRow base e size v n xs) : ∃ A c, v = .slice A n c := by
  rcases h.2 with ⟨rfl, rfl⟩ | ⟨g, cap, cur, rfl, _⟩
  · exact ⟨_, _, rfl⟩
  · exact ⟨_, _, rfl⟩

/-- Slices that stand in a row of slices. -/
def Parts (w : World) (P : Nat) (ps : List (Option Addr × Nat × Nat × List Int)) : Prop :=
  ∀ i A n c zs, ps[i]? = some (A, n, c, zs) → w.cell? ⟨P, i, none⟩ = some (.slice A n c) ∧ Sl w A n c zs
/-- All of the first k. -/
def flat (ps : List (Option Addr × Nat × Nat × List Int)) (k : Nat) : List Int := ((ps.take k).map (·.2.2.2)).flatten
theorem flat_succ {ps : List (Option Addr × Nat × Nat × List Int)} {k : Nat} {A : Option Addr} {n c : Nat} {zs : List Int} (h : ps[k]? = some (A, n, c, zs)) : flat ps (k + 1) = flat ps k ++ zs := by
  unfold flat
  rw [List.take_add_one, h]
  simp
theorem flat_le (ps : List (Option Addr × Nat × Nat × List Int)) {k m : Nat} (h : k ≤ m) : (flat ps k).length ≤ (flat ps m).length := by
  induction m with
  | zero => obtain rfl : k = 0 := by omega
            exact Nat.le_refl _
  | succ m ih =>
    rcases Nat.lt_or_ge m k with h' | h'
    · obtain rfl : k = m + 1 := by omega
      exact Nat.le_refl _
    · refine Nat.le_trans (ih h') ?_
      cases hp : ps[m]? with
      | none =>
        have : ps.length ≤ m := List.getElem?_eq_none_iff.1 hp
        unfold flat
        rw [List.take_of_length_le this, List.take_of_length_le (by omega)]
        exact Nat.le_refl _
      | some p =>
        obtain ⟨A, n, c, zs⟩ := p
        rw [flat_succ hp]
        simp

/-- How a writer stands behind a thing of so many bytes. -/
def After (w : World) (b : Nat) (L r : Int) (out more : List Int) (base : Nat) : Prop :=
  (r = 0 ∧ ((out ++ more).length : Int) ≤ L ∧ ∃ v, WS w b L v 0 (out ++ more) base) ∨ (r = 4 ∧ L < ((out ++ more).length : Int) ∧ WS w b L (.slice none 0 0) 4 [] base)
/-- What a writer may turn. -/
def Own2 (b : Nat) (v : Value) : Nat → Prop := fun k => k = b ∨ v.ownBlock = some k

set_option maxRecDepth 100000 in
set_option maxHeartbeats 2000000 in
theorem write (b : Nat) (L : Int) (v : Value) (out : List Int) (base P : Nat) (ps : List (Option Addr × Nat × Nat × List Int)) (w : World) (h : WS w b L v 0 out base) (hP : Parts w P ps)
    (hb : P ≠ b) (hbv : v.ownBlock ≠ some P) (hps : ∀ (i : Nat) (A : Option Addr) (n c : Nat) (zs : List Int), ps[i]? = some (A, n, c, zs) → ∀ x : Addr, A = some x → x.block ≠ b ∧ v.ownBlock ≠ some x.block) (hl : ∀ (i : Nat) (A : Option Addr) (n c : Nat) (zs : List Int), ps[i]? = some (A, n, c, zs) → n ≤ 1000000000) (hk : ps.length ≤ 10) :
    Calls Tryz.prog 57 #[.pointer (some ⟨b, 0, none⟩), .slice (some ⟨P, 0, none⟩) ps.length ps.length] w fun e w' => ∃ r, e = .returned (.int .i64 r) ∧ After w' b L r out (flat ps ps.length) base ∧ Kep (Own2 b v) w w' := by
  have ST := Lib.hid (wstate b L v 0 out base w h)
  have H := Lib.hid h
  have HP := Lib.hid hP
  have HN := Lib.hid hps
  have HL := Lib.hid hl
  have h1 := h.high
  have h2 := h.low
  clear h hP hps hl
  go_enter Tryz.func57, Tryz.ntmps57
  go_wp2_with fail
  refine (ST.out).mono ?_
  rintro e w1 ⟨rfl, rfl⟩
  go_wp2_with fail
  go_loopw [15] (fun i wr => ∃ (k : Nat) (u : Value), i = .int .i64 k ∧ k ≤ ps.length ∧ WS wr b L u 0 (out ++ flat ps k) base ∧ Kep (Own2 b v) w wr ∧ (u.ownBlock = v.ownBlock ∨ ∀ g, u.ownBlock = some g → w.heap.size ≤ g)) (fun i _ => ps.length - (intOf i).toNat)
  case atStart => exact ⟨0, v, rfl, Nat.zero_le _, by simpa [flat] using H.out, Kep.refl _ _, .inl rfl⟩
  case round =>
    obtain ⟨k, u, rfl, hkn, hws, hkp, hu⟩ := hrel
    have HW := Lib.hid hws
    have HK := Lib.hid hkp
    have HU := Lib.hid hu
    clear hws hkp hu
    by_cases hlt : k < ps.length
    · obtain ⟨A, n, c, zs, hpk⟩ : ∃ A n c zs, ps[k]? = some (A, n, c, zs) := ⟨_, _, _, _, List.getElem?_eq_getElem hlt⟩
      have HPK := Lib.hid hpk
      have hcell : wr.cell? ⟨P, k, none⟩ = some (.slice A n c) := HK.out.cell (by rintro (h | h); exact hb h; exact hbv h) (HP.out k A n c zs hpk).1
      have HSL : Hid (Sl wr A n c zs) := ⟨HK.out.ints (fun x hx hs => by rcases hs with h | h; exact (HN.out k A n c zs hpk x hx).1 h; exact (HN.out k A n c zs hpk x hx).2 h) (HP.out k A n c zs hpk).2.ints, (HP.out k A n c zs hpk).2.cap, (HP.out k A n c zs hpk).2.nil⟩
      have hn := HL.out k A n c zs hpk
      obtain ⟨Au, cu, hvu, hsu⟩ := sl_of_own HW.out.row
      subst hvu
      have c1 : wr.cell? ⟨b, 1, none⟩ = some (.int .i64 L) := HW.out.blk.cell 1 rfl
      have c2 : wr.cell? ⟨b, 2, none⟩ = some (.slice Au (out ++ flat ps k).length cu) := HW.out.blk.cell 2 rfl
      have hfit := HW.out.fits
      clear hpk hsu
      generalize hlen : (out ++ flat ps k).length = m at *
      have HM := Lib.hid hlen
      clear hlen
      by_cases hx : L - (m : Int) < (n : Int)
      · have hm1 : (m : Int) ≤ L := hfit
        have e1 : IntKind.i64.wrap (L - (m : Int)) = L - (m : Int) := IntWalk.i64_in _ (by omega)
        have WF := Lib.hid (fun w' (h : WS w' b L (.slice Au m cu) 0 (out ++ flat ps k) base) => wfail b L _ _ base 4 w' h)
        have hd : decide (L - (m : Int) < (n : Int)) = true := decide_eq_true hx
        have HX := Lib.hid hx
        clear hx
        go_wp2_with fail
        go_region
        all_goals
          clear e1
          go_wp2_with fail
          refine (WF.out _ (HW.out.bel ((Bel.refl _).drew))).mono ?_
          rintro e w2 ⟨rfl, hw2, k2⟩
          go_wp2
          go_ret
          refine ⟨4, rfl, .inr ⟨rfl, ?_, hw2⟩, (HK.out.trans (Kep.of_bel ((Bel.refl _).drew))).trans (k2.mono fun i _ hi => .inl hi)⟩
          have h3 := flat_le ps (k := k + 1) (m := ps.length) hlt
          rw [flat_succ HPK.out] at h3
          have h4 := HM.out
          have h5 := HX.out
          have h6 := HSL.out.ints.1
          simp only [List.length_append] at h3 h4 ⊢
          omega
      · have hm1 : (m : Int) ≤ L := hfit
        have e1 : IntKind.i64.wrap (L - (m : Int)) = L - (m : Int) := IntWalk.i64_in _ (by omega)
        have hd : decide (L - (m : Int) < (n : Int)) = false := decide_eq_false hx
        have HX := Lib.hid hx
        have HROW := Lib.hid (show wr.drew.ownsRow base 5 1 (.slice Au m cu) m ((out ++ flat ps k).map (Value.int .u8)) by have := HW.out.row; rw [HM.out] at this; exact this)
        have HSD := Lib.hid (HSL.out.bel ((Bel.refl wr).drew))
        have HBB := Lib.hid (show Blk wr.drew b _ _ from HW.out.blk.bel ((Bel.refl wr).drew))
        have HNR := Lib.hid (HBB.out.not_row (by decide) HROW.out)
        have hmn : m + n ≤ 1000000000000 := by omega
        have HBS := Lib.hid HW.out.base
        clear hx
        go_wp2_with fail
        go_region
        all_goals
          clear e1
          go_wp2_with (at_builtin; refine wpList_append_at rfl _ _ rfl base _ m _ rfl HROW.out A n c zs rfl HSD.out hmn HBS.out ?_; intro v' w2 hown2 hgrow hat; obtain ⟨Av, cv, hv⟩ : ∃ Av cv, v' = .slice Av (m + n) cv := slice_of_own hown2; subst hv; have HO2 := Lib.hid hown2; have HG := Lib.hid hgrow; have HAT := Lib.hid hat; have HB2 := Lib.hid (show Blk w2 b _ _ from (hgrow.block b HBB.out.lt (fun e => HNR.out e.symm)).trans HBB.out); clear hown2 hgrow hat; have c2' : w2.cell? ⟨b, 2, none⟩ = some (.slice Au m cu) := HB2.out.cell 2 rfl; have f2' := HB2.out.frozen 2)
          go_roundw
          case rel =>
            have hout : out ++ flat ps (k + 1) = (out ++ flat ps k) ++ zs := by rw [flat_succ HPK.out, List.append_assoc]
            have hll : (out ++ flat ps (k + 1)).length = m + n := by rw [hout, List.length_append, HM.out, HSL.out.ints.1]
            have hrow : w2.ownsRow base 5 1 (.slice Av (m + n) cv) (out ++ flat ps (k + 1)).length ((out ++ flat ps (k + 1)).map (Value.int .u8)) := by
              rw [hll, hout, List.map_append]; exact HO2.out
            have hkk : Kep (Own2 b v) w w2 := by
              refine (HK.out.trans (Kep.of_bel ((Bel.refl _).drew))).grown HG.out (fun i hi hlt' => ?_)
              rcases HU.out with h | h
              · exact .inr (by rw [← h]; exact hi)
              · have := h i hi; omega
            have hsz : w.heap.size ≤ wr.drew.heap.size := Nat.le_trans HK.out.size (Nat.le_refl _)
            refine ⟨k + 1, .slice Av (m + n) cv, by go_num, hlt, ⟨HB2.out.set 2 _, owns_set hrow (HB2.out.not_row (by decide) hrow) 2 _, h2, h1, by have hx := HX.out; rw [hll]; omega, ?_⟩, hkk.set (.inl rfl) _, ?_⟩
            · exact Nat.le_trans HBS.out (Nat.le_trans HG.out.size (Kep.set (S := fun i => i = b) (Kep.refl _ w2) (b := b) (o := 2) rfl _).size)
            · rcases HAT.out with h | h
              · rcases HU.out with h' | h'
                · exact .inl (h.trans h')
                · exact .inr fun g hg => h' g (h ▸ hg)
              · refine .inr fun g hg => ?_
                rw [h] at hg
                injection hg with hg
                omega
          case measure => simp [intOf]; omega
    · obtain rfl : k = ps.length := by omega
      go_wp2
      go_ret
      exact ⟨0, rfl, .inl ⟨rfl, HW.out.fits, _, HW.out⟩, HK.out⟩
end Cd
end Go.Proofs.YtcefjigbaglmeaaGreat
