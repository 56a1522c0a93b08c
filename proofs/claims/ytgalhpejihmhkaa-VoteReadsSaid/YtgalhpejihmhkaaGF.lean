/-
  Texts of this claim, put together: Writer, Writer2, Reader, Reader2, Reader3, Reader4, Reader5, Reader6, Hash. What each one says, and under which conditions, stands ahead of it.
-/
import Derived.Deep.RegionWith
import Derived.Deep.RegionHeld3
import Derived.Deep.DeepCutAuto
import Derived.Deep.MidRow
import Derived.Test.YtgalhpejihmhkaaGE

section
/-
  What the methods of a writer answer in this program: what is written, or why not; nothing else is turned but the writer and its row.
  Conditions: the writer is one that NewWriter made; slices that read as bytes and share no memory with it.
-/
namespace Go.Proofs.Ytgalhpejihmhkaa
open Go.RowKit Go.Shelf
set_option linter.unusedVariables false
namespace Cd

theorem wpList_append_at {w : World} {ops : Array Oper} {rest : List Oper} {o : Oper} {a : Act} {Q : Exit → Act → World → Prop} (hgd : o.guard = none) (s x : Operand)
    (ho : o.op = .call { callee := .builtin .append, args := #[s, x], argTypes := #[22, 22] })
    (base : Nat) (v : Value) (k : Nat) (xs : List Value) (hs : a.eval s = v) (hown : w.ownsRow base 5 1 v k xs) (A : Option Addr) (m c : Nat) (zs : List Int) (hx : a.eval x = .slice A m c) (hi : Sl w A m c zs)
    (hm : k + m ≤ 1000000000000) (hb : base ≤ w.heap.size)
    (h : ∀ v' w', w'.ownsRow base 5 1 v' (k + m) (xs ++ zs.map (Value.int .u8)) → w.grownBy w' v.ownBlock → (v'.ownBlock = v.ownBlock ∨ v'.ownBlock = some w.heap.size) → wpList Try.prog ops Q rest (a.put o.dst v') w') : wpList Try.prog ops Q (o :: rest) a w := by
  obtain ⟨i0, h1, hz0, hz1, hz2⟩ := info_parts Try.info_u8
  cases A with
  | none =>
    obtain rfl : c = 0 := hi.nil rfl
    obtain rfl : m = 0 := by have := hi.cap; omega
    have hz : zs = [] := List.length_eq_zero_iff.1 hi.ints.1
    subst hz
    refine wpList_append_own_none hgd s x 22 ho base 5 i0 1 Try.underlying22 h1 v k xs hs hown hx ?_
    exact h v w (by simpa using hown) ⟨rfl, rfl, rfl, Nat.le_refl _, fun _ _ _ => rfl⟩ (.inl rfl)
  | some ad =>
    refine wpList_append_own_at w hgd s x 22 ho base 5 i0 (.int .u8 0) 1 1 Try.underlying22 h1 hz0 hz1 hz2 rfl (by decide) v k xs hs hown ad m c (zs.map (Value.int .u8)) hx (by have := hi.ints.1; simp; omega) (Ints.news hi.ints) (ints_ok zs) (by unfold maxLen; omega) (by omega) hb ?_
    intro v' w' h2 h3 _ h4
    exact h v' w' h2 h3 h4

theorem slice_of_own {w : World} {base : Nat} {e : TypeId} {size : Nat} {v : Value} {n : Nat} {xs : List Value} (h : w.ownsRow base e size v n xs) : ∃ A c, v = .slice A n c := by
  rcases h.2 with ⟨rfl, rfl⟩ | ⟨g, cap, cur, rfl, _⟩
  · exact ⟨_, _, rfl⟩
  · exact ⟨_, _, rfl⟩

/-- Slices that stand in a row of slices. -/
def Parts (w : World) (P : Nat) (ps : List (Option Addr × Nat × Nat × List Int)) : Prop :=
  ∀ i A n c zs, ps[i]? = some (A, n, c, zs) → w.cell? ⟨P, i, none⟩ = some (.slice A n c) ∧ Sl w A n c zs
/-- All of the first k. -/
def flat (ps : List (Option Addr × Nat × Nat × List Int)) (k : Nat) : List Int := ((ps.take k).map (·.2.2.2)).flatten
theorem flat_succ {ps : List (Option Addr × Nat × Nat × List Int)} {k : Nat} {A : Option Addr} {n c : Nat} {zs : List Int} (h : ps[k]? = some (A, n, c, zs)) : flat ps (k + 1) = flat ps k ++ zs := by
  unfold flat
  rw [List.take_add_one, h]
  simp
theorem flat_le (ps : List (Option Addr × Nat × Nat × List Int)) {k m : Nat} (h : k ≤ m) : (flat ps k).length ≤ (flat ps m).length := by
  induction m with
  | zero => obtain rfl : k = 0 := by omega
            exact Nat.le_refl _
  | succ m ih =>
    rcases Nat.lt_or_ge m k with h' | h'
    · obtain rfl : k = m + 1 := by omega
      exact Nat.le_refl _
    · refine Nat.le_trans (ih h') ?_
      cases hp : ps[m]? with
      | none =>
        have : ps.length ≤ m := List.getElem?_eq_none_iff.1 hp
        unfold flat
        rw [List.take_of_length_le this, List.take_of_length_le (by omega)]
        exact Nat.le_refl _
      | some p =>
        obtain ⟨A, n, c, zs⟩ := p
        rw [flat_succ hp]
        simp

/-- How a writer stands behind a thing of so many bytes. -/
def After (w : World) (b : Nat) (L r : Int) (out more : List Int) (base : Nat) : Prop :=
  (r = 0 ∧ ((out ++ more).length : Int) ≤ L ∧ ∃ v, WS w b L v 0 (out ++ more) base) ∨ (r = 4 ∧ L < ((out ++ more).length : Int) ∧ WS w b L (.slice none 0 0) 4 [] base)
/-- What a writer may turn. -/
def Own2 (b : Nat) (v : Value) : Nat → Prop := fun k => k = b ∨ v.ownBlock = some k

set_option maxRecDepth 100000 in
set_option maxHeartbeats 2000000 in
theorem write (b : Nat) (L : Int) (v : Value) (out : List Int) (base P : Nat) (ps : List (Option Addr × Nat × Nat × List Int)) (w : World) (h : WS w b L v 0 out base) (hP : Parts w P ps)
    (hb : P ≠ b) (hbv : v.ownBlock ≠ some P) (hps : ∀ (i : Nat) (A : Option Addr) (n c : Nat) (zs : List Int), ps[i]? = some (A, n, c, zs) → ∀ x : Addr, A = some x → x.block ≠ b ∧ v.ownBlock ≠ some x.block) (hl : ∀ (i : Nat) (A : Option Addr) (n c : Nat) (zs : List Int), ps[i]? = some (A, n, c, zs) → n ≤ 1000000000) (hk : ps.length ≤ 10) :
    Calls Try.prog 75 #[.pointer (some ⟨b, 0, none⟩), .slice (some ⟨P, 0, none⟩) ps.length ps.length] w fun e w' => ∃ r, e = .returned (.int .i64 r) ∧ After w' b L r out (flat ps ps.length) base ∧ Kep (Own2 b v) w w' := by
  have ST := Lib.hid (wstate b L v 0 out base w h)
  have H := Lib.hid h
  have HP := Lib.hid hP
  have HN := Lib.hid hps
  have HL := Lib.hid hl
  have h1 := h.high
  have h2 := h.low
  clear h hP hps hl
  go_enter Try.func75, Try.ntmps75
  go_wp2_with fail
  refine (ST.out).mono ?_
  rintro e w1 ⟨rfl, rfl⟩
  go_wp2_with fail
  go_loopw [15] (fun i wr => ∃ (k : Nat) (u : Value), i = .int .i64 k ∧ k ≤ ps.length ∧ WS wr b L u 0 (out ++ flat ps k) base ∧ Kep (Own2 b v) w wr ∧ (u.ownBlock = v.ownBlock ∨ ∀ g, u.ownBlock = some g → w.heap.size ≤ g)) (fun i _ => ps.length - (intOf i).toNat)
  case atStart => exact ⟨0, v, rfl, Nat.zero_le _, by simpa [flat] using H.out, Kep.refl _ _, .inl rfl⟩
  case round =>
    obtain ⟨k, u, rfl, hkn, hws, hkp, hu⟩ := hrel
    have HW := Lib.hid hws
    have HK := Lib.hid hkp
    have HU := Lib.hid hu
    clear hws hkp hu
    by_cases hlt : k < ps.length
    · obtain ⟨A, n, c, zs, hpk⟩ : ∃ A n c zs, ps[k]? = some (A, n, c, zs) := ⟨_, _, _, _, List.getElem?_eq_getElem hlt⟩
      have HPK := Lib.hid hpk
      have hcell : wr.cell? ⟨P, k, none⟩ = some (.slice A n c) := HK.out.cell (by rintro (h | h); exact hb h; exact hbv h) (HP.out k A n c zs hpk).1
      have HSL : Hid (Sl wr A n c zs) := ⟨HK.out.ints (fun x hx hs => by rcases hs with h | h; exact (HN.out k A n c zs hpk x hx).1 h; exact (HN.out k A n c zs hpk x hx).2 h) (HP.out k A n c zs hpk).2.ints, (HP.out k A n c zs hpk).2.cap, (HP.out k A n c zs hpk).2.nil⟩
      have hn := HL.out k A n c zs hpk
      obtain ⟨Au, cu, hvu, hsu⟩ := sl_of_own HW.out.row
      subst hvu
      have c1 : wr.cell? ⟨b, 1, none⟩ = some (.int .i64 L) := HW.out.blk.cell 1 rfl
      have c2 : wr.cell? ⟨b, 2, none⟩ = some (.slice Au (out ++ flat ps k).length cu) := HW.out.blk.cell 2 rfl
      have hfit := HW.out.fits
      clear hpk hsu
      generalize hlen : (out ++ flat ps k).length = m at *
      have HM := Lib.hid hlen
      clear hlen
      by_cases hx : L - (m : Int) < (n : Int)
      · have hm1 : (m : Int) ≤ L := hfit
        have e1 : IntKind.i64.wrap (L - (m : Int)) = L - (m : Int) := IntWalk.i64_in _ (by omega)
        have WF := Lib.hid (fun w' (h : WS w' b L (.slice Au m cu) 0 (out ++ flat ps k) base) => wfail b L _ _ base 4 w' h)
        have hd : decide (L - (m : Int) < (n : Int)) = true := decide_eq_true hx
        have HX := Lib.hid hx
        clear hx
        go_wp2_with fail
        go_region
        all_goals
          clear e1
          go_wp2_with fail
          refine (WF.out _ (HW.out.bel ((Bel.refl _).drew))).mono ?_
          rintro e w2 ⟨rfl, hw2, k2⟩
          go_wp2
          go_ret
          refine ⟨4, rfl, .inr ⟨rfl, ?_, hw2⟩, (HK.out.trans (Kep.of_bel ((Bel.refl _).drew))).trans (k2.mono fun i _ hi => .inl hi)⟩
          have h3 := flat_le ps (k := k + 1) (m := ps.length) hlt
          rw [flat_succ HPK.out] at h3
          have h4 := HM.out
          have h5 := HX.out
          have h6 := HSL.out.ints.1
          simp only [List.length_append] at h3 h4 ⊢
          omega
      · have hm1 : (m : Int) ≤ L := hfit
        have e1 : IntKind.i64.wrap (L - (m : Int)) = L - (m : Int) := IntWalk.i64_in _ (by omega)
        have hd : decide (L - (m : Int) < (n : Int)) = false := decide_eq_false hx
        have HX := Lib.hid hx
        have HROW := Lib.hid (show wr.drew.ownsRow base 5 1 (.slice Au m cu) m ((out ++ flat ps k).map (Value.int .u8)) by have := HW.out.row; rw [HM.out] at this; exact this)
        have HSD := Lib.hid (HSL.out.bel ((Bel.refl wr).drew))
        have HBB := Lib.hid (show Blk wr.drew b _ _ from HW.out.blk.bel ((Bel.refl wr).drew))
        have HNR := Lib.hid (HBB.out.not_row (by decide) HROW.out)
        have hmn : m + n ≤ 1000000000000 := by omega
        have HBS := Lib.hid HW.out.base
        clear hx
        go_wp2_with fail
        go_region
        all_goals
          clear e1
          go_wp2_with (at_builtin; refine wpList_append_at rfl _ _ rfl base _ m _ rfl HROW.out A n c zs rfl HSD.out hmn HBS.out ?_; intro v' w2 hown2 hgrow hat; obtain ⟨Av, cv, hv⟩ : ∃ Av cv, v' = .slice Av (m + n) cv := slice_of_own hown2; subst hv; have HO2 := Lib.hid hown2; have HG := Lib.hid hgrow; have HAT := Lib.hid hat; have HB2 := Lib.hid (show Blk w2 b _ _ from (hgrow.block b HBB.out.lt (fun e => HNR.out e.symm)).trans HBB.out); clear hown2 hgrow hat; have c2' : w2.cell? ⟨b, 2, none⟩ = some (.slice Au m cu) := HB2.out.cell 2 rfl; have f2' := HB2.out.frozen 2)
          go_roundw
          case rel =>
            have hout : out ++ flat ps (k + 1) = (out ++ flat ps k) ++ zs := by rw [flat_succ HPK.out, List.append_assoc]
            have hll : (out ++ flat ps (k + 1)).length = m + n := by rw [hout, List.length_append, HM.out, HSL.out.ints.1]
            have hrow : w2.ownsRow base 5 1 (.slice Av (m + n) cv) (out ++ flat ps (k + 1)).length ((out ++ flat ps (k + 1)).map (Value.int .u8)) := by
              rw [hll, hout, List.map_append]; exact HO2.out
            have hkk : Kep (Own2 b v) w w2 := by
              refine (HK.out.trans (Kep.of_bel ((Bel.refl _).drew))).grown HG.out (fun i hi hlt' => ?_)
              rcases HU.out with h | h
              · exact .inr (by rw [← h]; exact hi)
              · have := h i hi; omega
            have hsz : w.heap.size ≤ wr.drew.heap.size := Nat.le_trans HK.out.size (Nat.le_refl _)
            refine ⟨k + 1, .slice Av (m + n) cv, by go_num, hlt, ⟨HB2.out.set 2 _, owns_set hrow (HB2.out.not_row (by decide) hrow) 2 _, h2, h1, by have hx := HX.out; rw [hll]; omega, ?_⟩, hkk.set (.inl rfl) _, ?_⟩
            · exact Nat.le_trans HBS.out (Nat.le_trans HG.out.size (Kep.set (S := fun i => i = b) (Kep.refl _ w2) (b := b) (o := 2) rfl _).size)
            · rcases HAT.out with h | h
              · rcases HU.out with h' | h'
                · exact .inl (h.trans h')
                · exact .inr fun g hg => h' g (h ▸ hg)
              · refine .inr fun g hg => ?_
                rw [h] at hg
                injection hg with hg
                omega
          case measure => simp [intOf]; omega
    · obtain rfl : k = ps.length := by omega
      go_wp2
      go_ret
      exact ⟨0, rfl, .inl ⟨rfl, HW.out.fits, _, HW.out⟩, HK.out⟩
end Cd
end Go.Proofs.Ytgalhpejihmhkaa
end

section
/-
  What U, N and Blob of a writer answer in this program.
  Conditions: the writer is one that NewWriter made, and has no error; a word; a number that is not negative; bytes that share no memory with the writer.
-/
namespace Go.Proofs.Ytgalhpejihmhkaa
open Go.RowKit Go.Shelf
set_option linter.unusedVariables false
namespace Cd

theorem parts_one {w : World} {P : Nat} {A : Option Addr} {n c : Nat} {zs : List Int} {t : TypeId} (hb : Blk w P #[.slice A n c] t) (hs : Sl w A n c zs) : Parts w P [(A, n, c, zs)] := by
  intro i A' n' c' zs' h
  match i, h with
  | 0, h => simp at h; obtain ⟨rfl, rfl, rfl, rfl⟩ := h; exact ⟨hb.cell 0 rfl, hs⟩
theorem parts_two {w : World} {P : Nat} {A : Option Addr} {n c : Nat} {zs : List Int} {B : Option Addr} {m d : Nat} {ys : List Int} {t : TypeId} (hb : Blk w P #[.slice A n c, .slice B m d] t) (hs : Sl w A n c zs) (hs' : Sl w B m d ys) : Parts w P [(A, n, c, zs), (B, m, d, ys)] := by
  intro i A' n' c' zs' h
  match i, h with
  | 0, h => simp at h; obtain ⟨rfl, rfl, rfl, rfl⟩ := h; exact ⟨hb.cell 0 rfl, hs⟩
  | 1, h => simp at h; obtain ⟨rfl, rfl, rfl, rfl⟩ := h; exact ⟨hb.cell 1 rfl, hs'⟩
theorem own_block_ge {w : World} {base : Nat} {e : TypeId} {size : Nat} {A : Option Addr} {n c m : Nat} {xs : List Value} (h : w.ownsRow base e size (.slice A n c) m xs) : ∀ x, A = some x → base ≤ x.block := by
  rintro x rfl
  exact (h.lt _ rfl).1
theorem WS.row_lt {w : World} {b : Nat} {L : Int} {v : Value} {err : Int} {out : List Int} {base : Nat} (h : WS w b L v err out base) : ∀ k, v.ownBlock = some k → k < w.heap.size := fun k hk => (h.row.lt k hk).2

set_option maxRecDepth 100000 in
set_option maxHeartbeats 1000000 in
theorem wU (b : Nat) (L : Int) (v : Value) (out : List Int) (base : Nat) (x : Int) (w : World) (h : WS w b L v 0 out base) (x0 : 0 ≤ x) (x1 : x ≤ 18446744073709551615) :
    Calls Try.prog 61 #[.pointer (some ⟨b, 0, none⟩), .int .u64 x] w fun e w' => ∃ r, e = .returned (.int .i64 r) ∧ After w' b L r out (enc x) base ∧ Kep (Own2 b v) w w' := by
  have P1 := Lib.hid (fun w' => put x w' x0 x1)
  have H := Lib.hid h
  have hl := (enc_len x).2
  clear h x1
  go_enter Try.func61, Try.ntmps61
  go_wp2_with fail
  refine (P1.out _).mono ?_
  rintro e w1 ⟨u, rfl, ou, b1⟩
  have b1 : Bel w w1 := b1
  obtain ⟨A, c, hu, hs⟩ := sl_of_own ou
  subst hu
  have hge := own_block_ge ou
  have HS := Lib.hid hs
  have hlt1 : w.heap.size ≤ w1.heap.size := Below.size b1
  have hbl := H.out.blk.lt
  have hrl := H.out.row_lt
  have WR := Lib.hid (write b L v out base w1.heap.size [(A, (enc x).length, c, enc x)] _ (H.out.bel (b1.alloc (.cells #[.slice A (enc x).length c] 22))) (parts_one (Blk.new w1 _ _) (hs.bel ((Bel.refl _).alloc _))) (by omega) (fun e => by have := hrl _ e; omega)
    (by
      intro i A' n' c' zs' hi y hy
      match i, hi with
      | 0, hi =>
        simp at hi
        obtain ⟨rfl, rfl, rfl, rfl⟩ := hi
        have := hge y hy
        exact ⟨by omega, fun e => by have := hrl _ e; omega⟩)
    (by
      intro i A' n' c' zs' hi
      match i, hi with
      | 0, hi => simp at hi; omega) (by simp))
  clear hs ou hge hrl
  go_wp2_with fail
  refine (WR.out).mono ?_
  rintro e w2 ⟨r, rfl, ha, hk⟩
  have HA := Lib.hid ha
  have HK := Lib.hid ((Kep.of_bel (b1.alloc (.cells #[.slice A (enc x).length c] 22))).trans hk)
  clear ha hk
  go_wp2
  go_ret
  have h1 := HA.out
  rw [show flat [(A, (enc x).length, c, enc x)] [(A, (enc x).length, c, enc x)].length = enc x by simp [flat]] at h1
  exact ⟨r, rfl, h1, HK.out⟩

set_option maxRecDepth 100000 in
set_option maxHeartbeats 1000000 in
theorem wN (b : Nat) (L : Int) (v : Value) (out : List Int) (base : Nat) (x : Int) (w : World) (h : WS w b L v 0 out base) (x0 : 0 ≤ x) (x1 : x ≤ 9223372036854775807) :
    Calls Try.prog 53 #[.pointer (some ⟨b, 0, none⟩), .int .i64 x] w fun e w' => ∃ r, e = .returned (.int .i64 r) ∧ After w' b L r out (enc x) base ∧ Kep (Own2 b v) w w' := by
  have ST := Lib.hid (wstate b L v 0 out base w h)
  have WU := Lib.hid (wU b L v out base x w h x0 (by omega))
  clear h
  go_enter Try.func53, Try.ntmps53
  go_wp2_with fail
  refine (ST.out).mono ?_
  rintro e w1 ⟨rfl, rfl⟩
  go_wp2_with fail
  refine (WU.out).mono ?_
  rintro e w2 ⟨r, rfl, ha, hk⟩
  have HA := Lib.hid ha
  have HK := Lib.hid hk
  clear ha hk
  go_wp2
  go_ret
  exact ⟨r, rfl, HA.out, HK.out⟩

end Cd
end Go.Proofs.Ytgalhpejihmhkaa
end

section
/-
  What a reader answers in this program: its state, its place, what is left, its end; what U reads.
  Conditions: the reader is one that NewReader made of at most 10^6 bytes.
-/
namespace Go.Proofs.Ytgalhpejihmhkaa
open Go.RowKit Go.Shelf
set_option linter.unusedVariables false
namespace Cd

/-- A reader: where it lies, its bytes, its place, its fault's place. -/
structure RSt (w : World) (b : Nat) (A : Option Addr) (n c : Nat) (zs : List Int) (k : Nat) (F : Option Addr) : Prop where
  blk : Blk w b #[.pointer (some ⟨b, 0, none⟩), .slice A n c, .int .i64 (k : Int), .pointer F] 65
  sl : Sl w A n c zs
  len : n ≤ 1000000
  bytes : Bytes zs
  le : k ≤ n
  apart : ∀ x : Addr, A = some x → x.block ≠ b
/-- Its fault: none, or an error and a place. -/
def Flt (w : World) (b : Nat) (F : Option Addr) (f : Option (Int × Int)) : Prop :=
  (f = none ∧ F = none) ∨ (∃ e p fb, f = some (e, p) ∧ F = some ⟨fb, 0, none⟩ ∧ fb ≠ b ∧ Blk w fb #[.int .i64 e, .int .i64 p] 32 ∧ e ≠ 0)
def RS (w : World) (b : Nat) (zs : List Int) (k : Nat) (f : Option (Int × Int)) : Prop := ∃ A n c F, RSt w b A n c zs k F ∧ Flt w b F f

theorem RSt.kep {S : Nat → Prop} {w w' : World} {b : Nat} {A : Option Addr} {n c : Nat} {zs : List Int} {k : Nat} {F : Option Addr} (h : RSt w b A n c zs k F) (hk : Kep S w w') (h1 : ¬ S b) (h2 : ∀ x : Addr, A = some x → ¬ S x.block) : RSt w' b A n c zs k F :=
  ⟨h.blk.kep hk h1, ⟨hk.ints h2 h.sl.ints, h.sl.cap, h.sl.nil⟩, h.len, h.bytes, h.le, h.apart⟩
theorem RSt.bel {w w' : World} {b : Nat} {A : Option Addr} {n c : Nat} {zs : List Int} {k : Nat} {F : Option Addr} (h : RSt w b A n c zs k F) (hk : Bel w w') : RSt w' b A n c zs k F :=
  ⟨h.blk.bel hk, h.sl.bel hk, h.len, h.bytes, h.le, h.apart⟩
theorem Flt.bel {w w' : World} {b : Nat} {F : Option Addr} {f : Option (Int × Int)} (h : Flt w b F f) (hk : Bel w w') : Flt w' b F f := by
  rcases h with h | ⟨e, p, fb, h1, h2, h3, h4, h5⟩
  · exact .inl h
  · exact .inr ⟨e, p, fb, h1, h2, h3, h4.bel hk, h5⟩
theorem RS.bel {w w' : World} {b : Nat} {zs : List Int} {k : Nat} {f : Option (Int × Int)} (h : RS w b zs k f) (hk : Bel w w') : RS w' b zs k f := by
  obtain ⟨A, n, c, F, h1, h2⟩ := h
  exact ⟨A, n, c, F, h1.bel hk, h2.bel hk⟩
/-- The place moved on. -/
theorem RSt.move {w : World} {b : Nat} {A : Option Addr} {n c : Nat} {zs : List Int} {k : Nat} {F : Option Addr} (h : RSt w b A n c zs k F) {k' : Nat} (hk : k' ≤ n) : RSt (w.setCell ⟨b, 2, none⟩ (.int .i64 (k' : Int))) b A n c zs k' F :=
  ⟨h.blk.set 2 _, ⟨(Kep.set (S := fun i => i = b) (Kep.refl _ w) (b := b) (o := 2) rfl _).ints h.apart h.sl.ints, h.sl.cap, h.sl.nil⟩, h.len, h.bytes, hk, h.apart⟩
/-- A fault laid. -/
theorem RSt.fault {w : World} {b : Nat} {A : Option Addr} {n c : Nat} {zs : List Int} {k : Nat} {F : Option Addr} (h : RSt w b A n c zs k F) (G : Option Addr) : RSt (w.setCell ⟨b, 3, none⟩ (.pointer G)) b A n c zs k G :=
  ⟨h.blk.set 3 _, ⟨(Kep.set (S := fun i => i = b) (Kep.refl _ w) (b := b) (o := 3) rfl _).ints h.apart h.sl.ints, h.sl.cap, h.sl.nil⟩, h.len, h.bytes, h.le, h.apart⟩

theorem rneq (a : Addr) (w : World) : (binOp .neq 48 (.pointer (some a)) (.pointer (some a))).run Try.prog w = .ok (.bool false) w :=
  neq_self _ 65 a 4 Try.underlying48 (fun w => Try.sizeOf65 w) (by decide)

theorem newReader (A : Option Addr) (n c : Nat) (zs : List Int) (w : World) (hs : Sl w A n c zs) (hn : n ≤ 1000000) (hb : Bytes zs) :
    Calls Try.prog 19 #[.slice A n c] w fun e w' => ∃ b A' c', e = .returned (.pointer (some ⟨b, 0, none⟩)) ∧ w.heap.size ≤ b ∧ RSt w' b A' n c' zs 0 none ∧ (∀ x : Addr, A' = some x → w.heap.size ≤ x.block) ∧ Bel w w' := by
  have CL := Lib.hid (clone A n c zs w hs (by omega))
  have hl := hs.len
  clear hs
  go_enter Try.func19, Try.ntmps19
  go_wp2_with fail
  refine (CL.out).mono ?_
  rintro e w1 ⟨u, rfl, hu⟩
  obtain ⟨A', c', hv, hs'⟩ := hu.sl
  subst hv
  have b1 : Bel w w1 := hu.2
  have HS := Lib.hid hs'
  have HA : Hid (∀ x : Addr, A' = some x → w.heap.size ≤ x.block ∧ x.block < w1.heap.size) := by rintro x rfl; exact hu.1.lt _ rfl
  clear hs' hu
  have hlt1 : w.heap.size ≤ w1.heap.size := Below.size b1
  go_wp2
  go_ret
  refine ⟨w1.heap.size, A', c', rfl, hlt1, ⟨Blk.new _ _ _, ?_, hn, hb, Nat.zero_le _, fun x hx => by have := HA.out x hx; omega⟩, fun x hx => (HA.out x hx).1, b1.alloc _⟩
  have h := HS.out
  rw [hl] at h
  exact h.bel ((Bel.refl _).alloc _)

set_option maxRecDepth 100000 in
theorem trouble (b : Nat) (A : Option Addr) (n c : Nat) (zs : List Int) (k : Nat) (F : Option Addr) (w : World) (h : RSt w b A n c zs k F) :
    Calls Try.prog 42 #[.pointer (some ⟨b, 0, none⟩)] w fun e w' => e = .returned (.pointer F) ∧ w = w' := by
  have c0 : w.cell? ⟨b, 0, none⟩ = some (.pointer (some ⟨b, 0, none⟩)) := h.blk.cell 0 rfl
  have c3 : w.cell? ⟨b, 3, none⟩ = some (.pointer F) := h.blk.cell 3 rfl
  have hq := rneq ⟨b, 0, none⟩
  clear h
  go_enter Try.func42, Try.ntmps42
  go_wp2
  go_ret
  exact ⟨rfl, rfl⟩


set_option maxRecDepth 100000 in
theorem rleft_none (b : Nat) (A : Option Addr) (n c : Nat) (zs : List Int) (k : Nat) (w : World) (h : RSt w b A n c zs k none) :
    Calls Try.prog 43 #[.pointer (some ⟨b, 0, none⟩)] w fun e w' => e = .returned (.int .i64 ((n : Int) - (k : Int))) ∧ Bel w w' := by
  have T := Lib.hid (trouble b A n c zs k none w h)
  have c1 : w.cell? ⟨b, 1, none⟩ = some (.slice A n c) := h.blk.cell 1 rfl
  have c2 : w.cell? ⟨b, 2, none⟩ = some (.int .i64 (k : Int)) := h.blk.cell 2 rfl
  have h1 := h.len
  have h2 := h.le
  clear h
  go_enter Try.func43, Try.ntmps43
  go_wp2_with (go_at_call 42; refine (T.out).mono ?_; rintro e w' ⟨rfl, rfl⟩)
  have e1 : IntKind.i64.wrap ((n : Int) - (k : Int)) = (n : Int) - (k : Int) := IntWalk.i64_in _ (by omega)
  go_region
  all_goals
    go_wp2
    go_ret
    exact ⟨rfl, (Bel.refl _).drew⟩
set_option maxRecDepth 100000 in
theorem rleft_some (b : Nat) (A : Option Addr) (n c : Nat) (zs : List Int) (k : Nat) (x : Addr) (w : World) (h : RSt w b A n c zs k (some x)) :
    Calls Try.prog 43 #[.pointer (some ⟨b, 0, none⟩)] w fun e w' => e = .returned (.int .i64 0) ∧ w = w' := by
  have T := Lib.hid (trouble b A n c zs k _ w h)
  clear h
  go_enter Try.func43, Try.ntmps43
  go_wp2_with (go_at_call 42; refine (T.out).mono ?_; rintro e w' ⟨rfl, rfl⟩)
  go_ret
  exact ⟨rfl, rfl⟩

set_option maxRecDepth 100000 in
theorem rend_some (b : Nat) (A : Option Addr) (n c : Nat) (zs : List Int) (k fb : Nat) (e p : Int) (w : World) (h : RSt w b A n c zs k (some ⟨fb, 0, none⟩)) (hf : Blk w fb #[.int .i64 e, .int .i64 p] 32) :
    Calls Try.prog 23 #[.pointer (some ⟨b, 0, none⟩)] w fun r w' => r = .returned (.agg #[.int .i64 e, .int .i64 p]) ∧ Bel w w' := by
  have T := Lib.hid (fun w' (hw : Bel w w') => trouble b A n c zs k _ w' (h.bel hw))
  have hw : Bel w (w.alloc (.cells #[.int .i64 0, .int .i64 0] 32)) := (Bel.refl w).alloc _
  have c1 : (w.alloc (.cells #[.int .i64 0, .int .i64 0] 32)).cell? ⟨fb, 0, none⟩ = some (.int .i64 e) := (hf.bel hw).cell 0 rfl
  have c2 : (w.alloc (.cells #[.int .i64 0, .int .i64 0] 32)).cell? ⟨fb, 1, none⟩ = some (.int .i64 p) := (hf.bel hw).cell 1 rfl
  have HW := Lib.hid hw
  clear h hf hw
  go_enter Try.func23, Try.ntmps23
  go_wp2_with (go_at_call 42; refine (T.out _ HW.out).mono ?_; rintro e w' ⟨rfl, rfl⟩)
  refine bodyPost_ret (v := .agg #[.int .i64 e, .int .i64 p]) (by simp [results, Try.results23, go_sem]) rfl ⟨rfl, ?_⟩
  exact (Bel.refl _).alloc _
set_option maxRecDepth 100000 in
theorem rend_none (b : Nat) (A : Option Addr) (n c : Nat) (zs : List Int) (k : Nat) (w : World) (h : RSt w b A n c zs k none) :
    Calls Try.prog 23 #[.pointer (some ⟨b, 0, none⟩)] w fun r w' => r = .returned (if k < n then .agg #[.int .i64 4, .int .i64 (k : Int)] else .agg #[.int .i64 0, .int .i64 0]) ∧ Bel w w' := by
  have T := Lib.hid (fun w' (hw : Bel w w') => trouble b A n c zs k _ w' (h.bel hw))
  have LF := Lib.hid (fun w' (hw : Bel w w') => rleft_none b A n c zs k w' (h.bel hw))
  have HR := Lib.hid h
  have hw : Bel w (w.alloc (.cells #[.int .i64 0, .int .i64 0] 32)) := (Bel.refl w).alloc _
  have HW := Lib.hid hw
  have h1 := h.le
  have h2 := h.len
  clear h hw
  by_cases hlt : k < n
  · rw [if_pos hlt]
    have hd : (0 : Int) < (n : Int) - (k : Int) := by omega
    go_enter Try.func23, Try.ntmps23
    go_wp2_with fail
    refine (T.out _ HW.out).mono ?_
    rintro e w' ⟨rfl, rfl⟩
    go_wp2_with fail
    refine (LF.out _ HW.out).mono ?_
    rintro e w2 ⟨rfl, hb2⟩
    have c2 : w2.cell? ⟨b, 2, none⟩ = some (.int .i64 (k : Int)) := (HR.out.blk.bel (HW.out.trans hb2)).cell 2 rfl
    have d0 : w2.cell? ⟨w.heap.size, 0, none⟩ = some (.int .i64 0) := (Below.cell (p := ⟨w.heap.size, 0, none⟩) hb2 (by simp)).trans (by simp)
    have d1 : w2.cell? ⟨w.heap.size, 1, none⟩ = some (.int .i64 0) := (Below.cell (p := ⟨w.heap.size, 1, none⟩) hb2 (by simp)).trans (by simp)
    have f0 : w2.frozen? ⟨w.heap.size, 0, none⟩ = false := (Below.frozen (p := ⟨w.heap.size, 0, none⟩) hb2 (by simp)).trans (by simp)
    have f1 : w2.frozen? ⟨w.heap.size, 1, none⟩ = false := (Below.frozen (p := ⟨w.heap.size, 1, none⟩) hb2 (by simp)).trans (by simp)
    have hb3 : Bel w w2 := HW.out.trans hb2
    clear hb2
    go_wp2
    refine bodyPost_ret (v := .agg #[.int .i64 4, .int .i64 (k : Int)]) (by simp [results, Try.results23, go_sem, d0, d1]) rfl ⟨rfl, ?_⟩
    exact (hb3.set (Nat.le_refl _) _).set (Nat.le_refl _) _
  · rw [if_neg hlt]
    have hd : (n : Int) - (k : Int) ≤ 0 := by omega
    go_enter Try.func23, Try.ntmps23
    go_wp2_with fail
    refine (T.out _ HW.out).mono ?_
    rintro e w' ⟨rfl, rfl⟩
    go_wp2_with fail
    refine (LF.out _ HW.out).mono ?_
    rintro e w2 ⟨rfl, hb2⟩
    have d0 : w2.cell? ⟨w.heap.size, 0, none⟩ = some (.int .i64 0) := (Below.cell (p := ⟨w.heap.size, 0, none⟩) hb2 (by simp)).trans (by simp)
    have d1 : w2.cell? ⟨w.heap.size, 1, none⟩ = some (.int .i64 0) := (Below.cell (p := ⟨w.heap.size, 1, none⟩) hb2 (by simp)).trans (by simp)
    have f0 : w2.frozen? ⟨w.heap.size, 0, none⟩ = false := (Below.frozen (p := ⟨w.heap.size, 0, none⟩) hb2 (by simp)).trans (by simp)
    have f1 : w2.frozen? ⟨w.heap.size, 1, none⟩ = false := (Below.frozen (p := ⟨w.heap.size, 1, none⟩) hb2 (by simp)).trans (by simp)
    have hb3 : Bel w w2 := HW.out.trans hb2
    clear hb2
    go_wp2
    refine bodyPost_ret (v := .agg #[.int .i64 0, .int .i64 0]) (by simp [results, Try.results23, go_sem, d0, d1]) rfl ⟨rfl, ?_⟩
    exact (hb3.set (Nat.le_refl _) _).set (Nat.le_refl _) _

/-- What the end of a reader tells. -/
def endOf (n k : Nat) (f : Option (Int × Int)) : Int × Int :=
  match f with
  | some p => p
  | none => if k < n then (4, (k : Int)) else (0, 0)
def atOf (k : Nat) (f : Option (Int × Int)) : Int :=
  match f with
  | some p => p.2
  | none => k
def leftOf (n k : Nat) (f : Option (Int × Int)) : Int :=
  match f with
  | some _ => 0
  | none => (n : Int) - k
abbrev fault (p : Int × Int) : Value := .agg #[.int .i64 p.1, .int .i64 p.2]

theorem rLeft (b : Nat) (zs : List Int) (k : Nat) (f : Option (Int × Int)) (w : World) (h : RS w b zs k f) :
    Calls Try.prog 43 #[.pointer (some ⟨b, 0, none⟩)] w fun e w' => e = .returned (.int .i64 (leftOf zs.length k f)) ∧ Bel w w' := by
  obtain ⟨A, n, c, F, h, ⟨rfl, rfl⟩ | ⟨e, p, fb, rfl, rfl, h3, h4, h5⟩⟩ := h
  · have hl := h.sl.len
    subst hl
    exact rleft_none b A _ c zs k w h
  · exact (rleft_some b A n c zs k _ w h).mono fun e w' h => ⟨h.1, by rw [h.2]; exact Bel.refl _⟩
theorem rEnd (b : Nat) (zs : List Int) (k : Nat) (f : Option (Int × Int)) (w : World) (h : RS w b zs k f) :
    Calls Try.prog 23 #[.pointer (some ⟨b, 0, none⟩)] w fun e w' => e = .returned (fault (endOf zs.length k f)) ∧ Bel w w' := by
  obtain ⟨A, n, c, F, h, ⟨rfl, rfl⟩ | ⟨e, p, fb, rfl, rfl, h3, h4, h5⟩⟩ := h
  · have hl := h.sl.len
    subst hl
    refine (rend_none b A _ c zs k w h).mono fun e w' h => ⟨h.1.trans ?_, h.2⟩
    unfold endOf
    split <;> rfl
  · exact rend_some b A n c zs k fb e p w h h4
end Cd
end Go.Proofs.Ytgalhpejihmhkaa
end

section
/-
  What U of a reader answers in this program.
  Conditions: the reader is one that NewReader made of at most 10^6 bytes.
-/
namespace Go.Proofs.Ytgalhpejihmhkaa
open Go.RowKit Go.Shelf
set_option linter.unusedVariables false
namespace Cd

/-- How a reader moves on behind an item: where the item ends, or its fault. -/
def Moves (k : Nat) (tl e bad : Int) (k' : Nat) (f' : Option (Int × Int)) : Prop := (e = 0 ∧ (k' : Int) = tl ∧ f' = none) ∨ (e ≠ 0 ∧ k' = k ∧ f' = some (e, bad))

theorem laid (w : World) (t : TypeId) : ∀ w1, Bel (w.alloc (.cells #[.int .i64 0, .int .i64 0] t)).drew w1 → w1.cell? ⟨w.heap.size, 0, none⟩ = some (.int .i64 0) ∧ w1.cell? ⟨w.heap.size, 1, none⟩ = some (.int .i64 0) ∧ w1.frozen? ⟨w.heap.size, 0, none⟩ = false ∧ w1.frozen? ⟨w.heap.size, 1, none⟩ = false ∧ Hid (Blk w1 w.heap.size #[.int .i64 0, .int .i64 0] t) := by
  intro w1 hb
  have h := (Blk.new w #[.int .i64 0, .int .i64 0] t).bel (((Bel.refl _).drew).trans hb)
  exact ⟨h.cell 0 rfl, h.cell 1 rfl, h.frozen 0, h.frozen 1, h⟩

set_option maxRecDepth 100000 in
set_option maxHeartbeats 1000000 in
theorem itemU_fault (b : Nat) (A : Option Addr) (n c : Nat) (zs : List Int) (k : Nat) (x : Addr) (fn : Value) (w : World) (h : RSt w b A n c zs k (some x)) :
    Calls Try.prog 41 #[.pointer (some ⟨b, 0, none⟩), fn] w fun e w' => e = .returned (.int .u64 0) ∧ w = w' := by
  have T := Lib.hid (trouble b A n c zs k _ w h)
  clear h
  go_enter Try.func41, Try.ntmps41
  go_wp2_with (go_at_call 42; refine (T.out).mono ?_; rintro e w' ⟨rfl, rfl⟩)
  go_ret
  exact ⟨rfl, rfl⟩

set_option maxRecDepth 100000 in
set_option maxHeartbeats 1000000 in
theorem itemU (b : Nat) (A : Option Addr) (n c : Nat) (zs : List Int) (k : Nat) (x tl e bad : Int) (k' : Nat) (f' : Option (Int × Int)) (w : World) (h : RSt w b A n c zs k none) (hw : Way zs k x tl e bad) (hm : Moves k tl e bad k' f') (hk' : k' ≤ n) (hx : e ≠ 0 → x = 0) :
    Calls Try.prog 41 #[.pointer (some ⟨b, 0, none⟩), .func (.func 38) #[] #[]] w fun r w' => r = .returned (.int .u64 x) ∧ RS w' b zs k' f' ∧ Kep (fun i => i = b) w w' := by
  have T := Lib.hid (trouble b A n c zs k none w h)
  have H := Lib.hid h
  have G := Lib.hid (fun w' (hb : Bel w w') => (get A n c zs k x tl e bad w' (h.sl.bel hb).ints (by have := h.len; omega) h.bytes h.sl.cap hw).mono (R' := fun r w1 => r = .returned (got x tl e bad) ∧ Bel w' w1 ∧ w1.cell? ⟨b, 1, none⟩ = some (.slice A n c) ∧ w1.cell? ⟨b, 2, none⟩ = some (.int .i64 (k : Int))) fun r w1 hr => ⟨hr.1, hr.2, (h.blk.bel (hb.trans hr.2)).cell 1 rfl, (h.blk.bel (hb.trans hr.2)).cell 2 rfl⟩)
  have c1 : w.cell? ⟨b, 1, none⟩ = some (.slice A n c) := h.blk.cell 1 rfl
  have c2 : w.cell? ⟨b, 2, none⟩ = some (.int .i64 (k : Int)) := h.blk.cell 2 rfl
  have n1 := World.new_ne w _ c1
  have D := Lib.hid (laid w 32)
  clear h hw
  go_enter Try.func41, Try.ntmps41
  go_upto_region 2 with (go_at_call 42; refine (T.out).mono ?_; rintro e w' ⟨rfl, rfl⟩)
  go_cut [5, 6, 7] (fun s5 s6 s7 wx => ∃ g : Nat, s5 = .int .u64 x ∧ s6 = .int .i64 tl ∧ s7 = .pointer (some ⟨g, 0, none⟩) ∧ w.heap.size ≤ g ∧ Blk wx g #[.int .i64 e, .int .i64 bad] 32 ∧ Bel w wx)
  case first =>
    go_region_held3 (fun w' => w'.cell? ⟨b, 1, none⟩ = some (.slice A n c) ∧ w'.cell? ⟨b, 2, none⟩ = some (.int .i64 (k : Int))) (go_keep)
      (first | (go_at_call 38; first | (refine (G.out _ ?_).mono ?_; exact ((Bel.refl _).alloc _).drew; rintro r w1 ⟨rfl, hb1, k1, k2⟩; obtain ⟨d0, d1, d2, d3, dB⟩ := D.out w1 hb1; have hb2 : Bel w w1 := (((Bel.refl _).alloc _).drew).trans hb1; have hbig := Below.size hb1; clear hb1) | (refine (G.out _ ?_).mono ?_; exact (Bel.refl _).drew; rintro r w1 ⟨rfl, hb1, k1, k2⟩; have hb2 : Bel w w1 := (Bel.refl _).drew.trans hb1; clear hb1)))
    all_goals (go_wp2_with fail; go_meet; first | exact ⟨w1.heap.size, rfl, rfl, rfl, Below.size hb2, Blk.new _ _ _, hb2.alloc _⟩ | exact ⟨w.heap.size, rfl, rfl, rfl, Nat.le_refl _, (dB.out.set 0 _).set 1 _, (hb2.set (Nat.le_refl _) _).set (Nat.le_refl _) _⟩)
  case rest =>
    obtain ⟨g, rfl, rfl, rfl, hg, hG, hbel⟩ := hcut
    have HG := Lib.hid hG
    have HB := Lib.hid hbel
    have HR := Lib.hid (H.out.bel hbel)
    have g0 : wc.cell? ⟨g, 0, none⟩ = some (.int .i64 e) := hG.cell 0 rfl
    have hbl := H.out.blk.lt
    have hne : g ≠ b := by omega
    clear hG hbel c1 c2 n1
    rcases hm with ⟨rfl, rfl, rfl⟩ | ⟨he, rfl, rfl⟩
    · have k2 : wc.cell? ⟨b, 2, none⟩ = some (.int .i64 (k : Int)) := HR.out.blk.cell 2 rfl
      have f2 := HR.out.blk.frozen 2
      go_wp2
      go_ret
      exact ⟨rfl, ⟨A, n, c, none, HR.out.move hk', .inl ⟨rfl, rfl⟩⟩, (Kep.of_bel HB.out).set_self _ _⟩
    · have k3 : wc.cell? ⟨b, 3, none⟩ = some (.pointer none) := HR.out.blk.cell 3 rfl
      have f3 := HR.out.blk.frozen 3
      have fe : (e != 0) = true := by rw [bne_iff_ne]; exact he
      have HE := Lib.hid he
      have HX := Lib.hid (hx he)
      clear he hx
      go_wp2
      go_ret
      exact ⟨by rw [HX.out]; rfl, ⟨A, n, c, _, HR.out.fault (some ⟨g, 0, none⟩), .inr ⟨e, bad, g, rfl, rfl, hne, HG.out.other hne 3 _, HE.out⟩⟩, (Kep.of_bel HB.out).set_self _ _⟩
end Cd
end Go.Proofs.Ytgalhpejihmhkaa
end

section
/-
  What N of a reader answers in this program.
  Conditions: the reader is one that NewReader made of at most 10^6 bytes.
-/
namespace Go.Proofs.Ytgalhpejihmhkaa
open Go.RowKit Go.Shelf
set_option linter.unusedVariables false
namespace Cd

/-- What N tells: the number, the place behind it, or a fault. -/
def NWay (zs : List Int) (k : Nat) (least most x tl e bad : Int) : Prop :=
  ∃ x0 t0 e0 b0, Way zs k x0 t0 e0 b0 ∧ 0 ≤ x0 ∧ x0 ≤ 18446744073709551615 ∧ ((e0 ≠ 0 ∧ x = 0 ∧ tl = 0 ∧ e = e0 ∧ bad = b0) ∨ (e0 = 0 ∧ (x0 < least ∨ most < x0) ∧ x = 0 ∧ tl = 0 ∧ e = 3 ∧ bad = k) ∨ (e0 = 0 ∧ least ≤ x0 ∧ x0 ≤ most ∧ x = x0 ∧ tl = t0 ∧ e = 0 ∧ bad = 0))
abbrev gotI (x tl e bad : Int) : Value := .tuple #[.int .i64 x, .int .i64 tl, .agg #[.int .i64 e, .int .i64 bad]]

set_option maxRecDepth 100000 in
set_option maxHeartbeats 1000000 in
theorem n1 (A : Option Addr) (n c : Nat) (zs : List Int) (k : Nat) (least most x tl e bad : Int) (p q : Nat) (w : World) (hs : Sl w A n c zs) (hn : n ≤ 1000000) (hb : Bytes zs) (hw : NWay zs k least most x tl e bad)
    (hp : w.cell? ⟨p, 0, none⟩ = some (.int .i64 least)) (hq : w.cell? ⟨q, 0, none⟩ = some (.int .i64 most)) (hm : most ≤ 9223372036854775807) :
    Calls Try.prog 37 #[.slice A n c, .int .i64 (k : Int), .pointer (some ⟨p, 0, none⟩), .pointer (some ⟨q, 0, none⟩)] w fun r w' => r = .returned (gotI x tl e bad) ∧ Bel w w' := by
  obtain ⟨x0, t0, e0, b0, hw0, h0, h1, hcs⟩ := hw
  have G := Lib.hid (fun w' (hw : Bel w w') => get A n c zs k x0 t0 e0 b0 w' (hs.bel hw).ints (by omega) hb hs.cap hw0)
  have HP := Lib.hid hp
  have HQ := Lib.hid hq
  clear hs hb hw0 hp hq
  rcases hcs with ⟨he, rfl, rfl, rfl, rfl⟩ | ⟨rfl, hx, rfl, rfl, rfl, rfl⟩ | ⟨rfl, hx1, hx2, rfl, rfl, rfl, rfl⟩
  · have fe : (e != 0) = true := by rw [bne_iff_ne]; exact he
    clear he
    go_enter Try.func37, Try.ntmps37
    go_wp2_with fail
    refine (G.out _ ((Bel.refl _).alloc _)).mono ?_
    rintro r w1 ⟨rfl, hb1⟩
    have hbel : Bel w w1 := ((Bel.refl w).alloc _).trans hb1
    have B0 := (Blk.new w #[.int .i64 0, .int .i64 0] 32).bel hb1
    have d0 : w1.cell? ⟨w.heap.size, 0, none⟩ = some (.int .i64 0) := B0.cell 0 rfl
    have d1 : w1.cell? ⟨w.heap.size, 1, none⟩ = some (.int .i64 0) := B0.cell 1 rfl
    have d2 := B0.frozen 0
    have d3 := B0.frozen 1
    have hsz : w.heap.size < w1.heap.size := by have := Below.size hb1; simp at this; omega
    clear hb1 B0
    go_wp2_with fail
    go_region
    go_wp2
    refine bodyPost_ret (v := gotI 0 0 e bad) (by simp [results, Try.results37, go_sem, d0, d1, hsz]) rfl ⟨rfl, ?_⟩
    first
      | exact ((hbel.set (Nat.le_refl _) _).set (Nat.le_refl _) _).alloc _
      | exact (((hbel.set (Nat.le_refl _) _).set (Nat.le_refl _) _).alloc _).drew
  · have hcs : decide ((9223372036854775807 : Int) < x0) = true ∨ (x0 ≤ 9223372036854775807 ∧ decide (x0 < least) = true) ∨ (x0 ≤ 9223372036854775807 ∧ decide (x0 < least) = false ∧ decide (most < x0) = true) := by
      rcases Int.lt_or_le 9223372036854775807 x0 with h | h
      · exact .inl (decide_eq_true h)
      · rcases Int.lt_or_le x0 least with h' | h'
        · exact .inr (.inl ⟨h, decide_eq_true h'⟩)
        · exact .inr (.inr ⟨h, decide_eq_false (by omega), decide_eq_true (by omega)⟩)
    clear hx
    go_enter Try.func37, Try.ntmps37
    go_wp2_with fail
    refine (G.out _ ((Bel.refl _).alloc _)).mono ?_
    rintro r w1 ⟨rfl, hb1⟩
    have hbel : Bel w w1 := ((Bel.refl w).alloc _).trans hb1
    have B0 := (Blk.new w #[.int .i64 0, .int .i64 0] 32).bel hb1
    have d0 : w1.cell? ⟨w.heap.size, 0, none⟩ = some (.int .i64 0) := B0.cell 0 rfl
    have d1 : w1.cell? ⟨w.heap.size, 1, none⟩ = some (.int .i64 0) := B0.cell 1 rfl
    have d2 := B0.frozen 0
    have d3 := B0.frozen 1
    have hsz : w.heap.size < w1.heap.size := by have := Below.size hb1; simp at this; omega
    have k1 : w1.cell? ⟨p, 0, none⟩ = some (.int .i64 least) := (Kep.of_bel (S := fun _ => False) hbel).cell id HP.out
    have k2 : w1.cell? ⟨q, 0, none⟩ = some (.int .i64 most) := (Kep.of_bel (S := fun _ => False) hbel).cell id HQ.out
    have l1 : p < w1.heap.size := World.block_lt_of_cell? w1 ⟨p, 0, none⟩ k1
    have l2 : q < w1.heap.size := World.block_lt_of_cell? w1 ⟨q, 0, none⟩ k2
    clear hb1 B0
    rcases hcs with f1 | ⟨f0, f1⟩ | ⟨f0, f1, f2⟩
    all_goals
      go_wp2
      refine bodyPost_ret (v := gotI 0 0 3 k) (by simp [results, Try.results37, go_sem, d0, d1, hsz]) rfl ⟨rfl, ?_⟩
      first
        | exact ((hbel.set (Nat.le_refl _) _).set (Nat.le_refl _) _).alloc _
        | exact (((hbel.set (Nat.le_refl _) _).set (Nat.le_refl _) _).alloc _).drew
  · have f0 : x ≤ 9223372036854775807 := by omega
    have f1 : decide (x < least) = false := decide_eq_false (by omega)
    have f2 : decide (most < x) = false := decide_eq_false (by omega)
    clear hx1 hx2
    go_enter Try.func37, Try.ntmps37
    go_wp2_with fail
    refine (G.out _ ((Bel.refl _).alloc _)).mono ?_
    rintro r w1 ⟨rfl, hb1⟩
    have hbel : Bel w w1 := ((Bel.refl w).alloc _).trans hb1
    have B0 := (Blk.new w #[.int .i64 0, .int .i64 0] 32).bel hb1
    have d0 : w1.cell? ⟨w.heap.size, 0, none⟩ = some (.int .i64 0) := B0.cell 0 rfl
    have d1 : w1.cell? ⟨w.heap.size, 1, none⟩ = some (.int .i64 0) := B0.cell 1 rfl
    have d2 := B0.frozen 0
    have d3 := B0.frozen 1
    have hsz : w.heap.size < w1.heap.size := by have := Below.size hb1; simp at this; omega
    have k1 : w1.cell? ⟨p, 0, none⟩ = some (.int .i64 least) := (Kep.of_bel (S := fun _ => False) hbel).cell id HP.out
    have k2 : w1.cell? ⟨q, 0, none⟩ = some (.int .i64 most) := (Kep.of_bel (S := fun _ => False) hbel).cell id HQ.out
    have l1 : p < w1.heap.size := World.block_lt_of_cell? w1 ⟨p, 0, none⟩ k1
    have l2 : q < w1.heap.size := World.block_lt_of_cell? w1 ⟨q, 0, none⟩ k2
    clear hb1 B0
    go_wp2
    refine bodyPost_ret (v := gotI x tl 0 0) (by simp [results, Try.results37, go_sem, d0, d1, hsz]) rfl ⟨rfl, ?_⟩
    first
      | exact ((hbel.set (Nat.le_refl _) _).set (Nat.le_refl _) _).alloc _
      | exact (((hbel.set (Nat.le_refl _) _).set (Nat.le_refl _) _).alloc _).drew

set_option maxRecDepth 100000 in
set_option maxHeartbeats 1000000 in
theorem itemN_fault (b : Nat) (A : Option Addr) (n c : Nat) (zs : List Int) (k : Nat) (x : Addr) (fn : Value) (w : World) (h : RSt w b A n c zs k (some x)) :
    Calls Try.prog 36 #[.pointer (some ⟨b, 0, none⟩), fn] w fun e w' => e = .returned (.int .i64 0) ∧ w = w' := by
  have T := Lib.hid (trouble b A n c zs k _ w h)
  clear h
  go_enter Try.func36, Try.ntmps36
  go_wp2_with (go_at_call 42; refine (T.out).mono ?_; rintro e w' ⟨rfl, rfl⟩)
  go_ret
  exact ⟨rfl, rfl⟩

set_option maxRecDepth 100000 in
set_option maxHeartbeats 1000000 in
theorem itemN (b : Nat) (A : Option Addr) (n c : Nat) (zs : List Int) (k : Nat) (x tl e bad : Int) (k' : Nat) (f' : Option (Int × Int)) (w : World) (h : RSt w b A n c zs k none) (p q : Addr) (hG : ∀ w', Bel w w' → Calls Try.prog 37 #[.slice A n c, .int .i64 (k : Int), .pointer (some p), .pointer (some q)] w' fun r w1 => r = .returned (gotI x tl e bad) ∧ Bel w' w1) (hm : Moves k tl e bad k' f') (hk' : k' ≤ n) (hx : e ≠ 0 → x = 0) :
    Calls Try.prog 36 #[.pointer (some ⟨b, 0, none⟩), .func (.func 37) #[] #[.pointer (some p), .pointer (some q)]] w fun r w' => r = .returned (.int .i64 x) ∧ RS w' b zs k' f' ∧ Kep (fun i => i = b) w w' := by
  have T := Lib.hid (trouble b A n c zs k none w h)
  have H := Lib.hid h
  have G := Lib.hid (fun w' (hb : Bel w w') => (hG w' hb).mono (R' := fun r w1 => r = .returned (gotI x tl e bad) ∧ Bel w' w1 ∧ w1.cell? ⟨b, 1, none⟩ = some (.slice A n c) ∧ w1.cell? ⟨b, 2, none⟩ = some (.int .i64 (k : Int))) fun r w1 hr => ⟨hr.1, hr.2, (h.blk.bel (hb.trans hr.2)).cell 1 rfl, (h.blk.bel (hb.trans hr.2)).cell 2 rfl⟩)
  have c1 : w.cell? ⟨b, 1, none⟩ = some (.slice A n c) := h.blk.cell 1 rfl
  have c2 : w.cell? ⟨b, 2, none⟩ = some (.int .i64 (k : Int)) := h.blk.cell 2 rfl
  have n1 := World.new_ne w _ c1
  have D := Lib.hid (laid w 32)
  clear h hG
  go_enter Try.func36, Try.ntmps36
  go_upto_region 2 with (go_at_call 42; refine (T.out).mono ?_; rintro e w' ⟨rfl, rfl⟩)
  go_cut [5, 6, 7] (fun s5 s6 s7 wx => ∃ g : Nat, s5 = .int .i64 x ∧ s6 = .int .i64 tl ∧ s7 = .pointer (some ⟨g, 0, none⟩) ∧ w.heap.size ≤ g ∧ Blk wx g #[.int .i64 e, .int .i64 bad] 32 ∧ Bel w wx)
  case first =>
    go_region_held3 (fun w' => w'.cell? ⟨b, 1, none⟩ = some (.slice A n c) ∧ w'.cell? ⟨b, 2, none⟩ = some (.int .i64 (k : Int))) (go_keep)
      (first | (go_at_call 37; first | (refine (G.out _ ?_).mono ?_; exact ((Bel.refl _).alloc _).drew; rintro r w1 ⟨rfl, hb1, k1, k2⟩; obtain ⟨d0, d1, d2, d3, dB⟩ := D.out w1 hb1; have hb2 : Bel w w1 := (((Bel.refl _).alloc _).drew).trans hb1; have hbig := Below.size hb1; clear hb1) | (refine (G.out _ ?_).mono ?_; exact (Bel.refl _).drew; rintro r w1 ⟨rfl, hb1, k1, k2⟩; have hb2 : Bel w w1 := (Bel.refl _).drew.trans hb1; clear hb1)))
    all_goals (go_wp2_with fail; go_meet; first | exact ⟨w1.heap.size, rfl, rfl, rfl, Below.size hb2, Blk.new _ _ _, hb2.alloc _⟩ | exact ⟨w.heap.size, rfl, rfl, rfl, Nat.le_refl _, (dB.out.set 0 _).set 1 _, (hb2.set (Nat.le_refl _) _).set (Nat.le_refl _) _⟩)
  case rest =>
    obtain ⟨g, rfl, rfl, rfl, hg, hG, hbel⟩ := hcut
    have HG := Lib.hid hG
    have HB := Lib.hid hbel
    have HR := Lib.hid (H.out.bel hbel)
    have g0 : wc.cell? ⟨g, 0, none⟩ = some (.int .i64 e) := hG.cell 0 rfl
    have hbl := H.out.blk.lt
    have hne : g ≠ b := by omega
    clear hG hbel c1 c2 n1
    rcases hm with ⟨rfl, rfl, rfl⟩ | ⟨he, rfl, rfl⟩
    · have k2 : wc.cell? ⟨b, 2, none⟩ = some (.int .i64 (k : Int)) := HR.out.blk.cell 2 rfl
      have f2 := HR.out.blk.frozen 2
      go_wp2
      go_ret
      exact ⟨rfl, ⟨A, n, c, none, HR.out.move hk', .inl ⟨rfl, rfl⟩⟩, (Kep.of_bel HB.out).set_self _ _⟩
    · have k3 : wc.cell? ⟨b, 3, none⟩ = some (.pointer none) := HR.out.blk.cell 3 rfl
      have f3 := HR.out.blk.frozen 3
      have fe : (e != 0) = true := by rw [bne_iff_ne]; exact he
      have HE := Lib.hid he
      have HX := Lib.hid (hx he)
      clear he hx
      go_wp2
      go_ret
      exact ⟨by rw [HX.out]; rfl, ⟨A, n, c, _, HR.out.fault (some ⟨g, 0, none⟩), .inr ⟨e, bad, g, rfl, rfl, hne, HG.out.other hne 3 _, HE.out⟩⟩, (Kep.of_bel HB.out).set_self _ _⟩
end Cd
end Go.Proofs.Ytgalhpejihmhkaa
end

section
/-
  What Blob of a reader answers in this program, and its items in general.
  Conditions: the reader is one that NewReader made of at most 10^6 bytes.
-/
namespace Go.Proofs.Ytgalhpejihmhkaa
open Go.RowKit Go.Shelf
set_option linter.unusedVariables false
namespace Cd

/-- What Blob tells: the bytes, the place behind them, or a fault. -/
def BWay (zs : List Int) (k : Nat) (most : Int) (ys : List Int) (tl e bad : Int) : Prop :=
  ∃ x0 t0 e0 b0, Way zs k x0 t0 e0 b0 ∧ 0 ≤ x0 ∧ x0 ≤ 18446744073709551615 ∧ ((e0 ≠ 0 ∧ ys = [] ∧ tl = 0 ∧ e = e0 ∧ bad = b0) ∨ (e0 = 0 ∧ (most < 0 ∨ most < x0) ∧ ys = [] ∧ tl = 0 ∧ e = 4 ∧ bad = k) ∨
    (∃ t : Nat, t0 = t ∧ t ≤ zs.length ∧ e0 = 0 ∧ 0 ≤ most ∧ x0 ≤ most ∧ (zs.length : Int) - t < x0 ∧ ys = [] ∧ tl = 0 ∧ e = 6 ∧ bad = k) ∨
    (∃ t m : Nat, t0 = t ∧ x0 = m ∧ t + m ≤ zs.length ∧ e0 = 0 ∧ 0 ≤ most ∧ x0 ≤ most ∧ ys = (zs.drop t).take m ∧ tl = ((t + m : Nat) : Int) ∧ e = 0 ∧ bad = 0))
abbrev gotV (v : Value) (tl e bad : Int) : Value := .tuple #[v, .int .i64 tl, .agg #[.int .i64 e, .int .i64 bad]]

/-- A part of a slice, as the program cuts it. -/
theorem sl_part {A : Option Addr} {n c : Nat} {zs : List Int} {w : World} (hs : Sl w A n c zs) (k m : Nat) (hk : k + m ≤ n) :
    ∃ A', (∀ w' : World, (Instr.slice 22 (.slice A n c) (some (.int .i64 (k : Int))) (some (.int .i64 ((k + m : Nat) : Int))) none).run Try.prog w' = .ok (.slice A' m (c - k)) w') ∧ Sl w A' m (c - k) ((zs.drop k).take m) := by
  have hc := hs.cap
  refine ⟨_, fun w' => ?_, hs.ints.part hk hc, by omega, fun h => ?_⟩
  · rw [slice_lh A n c k ((k + m : Nat) : Int) w' (by omega) (by omega) (by omega)]
    simp only [Int.toNat_natCast, Nat.add_sub_cancel_left]
  · split at h
    · omega
    · have : A = none := by cases A with | none => rfl | some a => simp at h
      have := hs.nil this
      omega

end Cd
end Go.Proofs.Ytgalhpejihmhkaa
end

section
/-
  What item of a reader answers in this program where the item is bytes, and what U, N and Blob answer.
  Conditions: the reader is one that NewReader made of at most 10^6 bytes.
-/
namespace Go.Proofs.Ytgalhpejihmhkaa
open Go.RowKit Go.Shelf
set_option linter.unusedVariables false
namespace Cd

theorem own_ne {w : World} {base : Nat} {e : TypeId} {size : Nat} {v : Value} {n : Nat} {xs : List Value} (h : w.ownsRow base e size v n xs) {b : Nat} (hb : b < base) : v.ownBlock ≠ some b := fun e => by
  have := (h.lt _ e).1
  omega
theorem own_set2 {w w1 : World} {v : Value} {n : Nat} {xs : List Value} {o : Obj} (h : w1.ownsRow (w.alloc o).drew.heap.size 5 1 v n xs) {u1 u2 : Value} : Hid (((w1.setCell ⟨w.heap.size, 0, none⟩ u1).setCell ⟨w.heap.size, 1, none⟩ u2).ownsRow w.heap.size 5 1 v n xs) := by
  have hne : v.ownBlock ≠ some w.heap.size := fun e => by have := (h.lt _ e).1; simp at this; omega
  exact owns_set (owns_set (owns_mono h (by simp)) hne 0 _) hne 1 _



def RU (zs : List Int) (k : Nat) (f : Option (Int × Int)) (x : Int) (k' : Nat) (f' : Option (Int × Int)) : Prop :=
  (∃ p, f = some p ∧ x = 0 ∧ k' = k ∧ f' = f) ∨ (f = none ∧ ∃ tl e bad, Way zs k x tl e bad ∧ Moves k tl e bad k' f' ∧ k' ≤ zs.length ∧ (e ≠ 0 → x = 0))
def RN (zs : List Int) (k : Nat) (f : Option (Int × Int)) (least most x : Int) (k' : Nat) (f' : Option (Int × Int)) : Prop :=
  (∃ p, f = some p ∧ x = 0 ∧ k' = k ∧ f' = f) ∨ (f = none ∧ ∃ tl e bad, NWay zs k least most x tl e bad ∧ Moves k tl e bad k' f' ∧ k' ≤ zs.length ∧ (e ≠ 0 → x = 0))
def RB (zs : List Int) (k : Nat) (f : Option (Int × Int)) (most : Int) (ys : List Int) (k' : Nat) (f' : Option (Int × Int)) : Prop :=
  (∃ p, f = some p ∧ ys = [] ∧ k' = k ∧ f' = f) ∨ (f = none ∧ ∃ tl e bad, BWay zs k most ys tl e bad ∧ Moves k tl e bad k' f' ∧ k' ≤ zs.length ∧ (e ≠ 0 → ys = []))

theorem rU (b : Nat) (zs : List Int) (k : Nat) (f : Option (Int × Int)) (x : Int) (k' : Nat) (f' : Option (Int × Int)) (w : World) (h : RS w b zs k f) (hr : RU zs k f x k' f') :
    Calls Try.prog 22 #[.pointer (some ⟨b, 0, none⟩)] w fun e w' => e = .returned (.int .u64 x) ∧ RS w' b zs k' f' ∧ Kep (fun i => i = b) w w' := by
  obtain ⟨A, n, c, F, hs, hf⟩ := h
  rcases hr with ⟨p, rfl, rfl, rfl, rfl⟩ | ⟨rfl, tl, e, bad, hw, hm, hk, hx⟩
  · obtain ⟨_, _⟩ | ⟨e, q, fb, h1, rfl, h3, h4, h5⟩ := hf
    · contradiction
    have IT := Lib.hid (itemU_fault b A n c zs k' ⟨fb, 0, none⟩ (.func (.func 38) #[] #[]) w hs)
    have HR : Hid (RS w b zs k' (some p)) := ⟨A, n, c, _, hs, .inr ⟨e, q, fb, h1, rfl, h3, h4, h5⟩⟩
    clear hs h1 h3 h4 h5
    go_enter Try.func22, Try.ntmps22
    go_wp2_with fail
    refine (IT.out).mono ?_
    rintro e w' ⟨rfl, rfl⟩
    go_wp2
    go_ret
    exact ⟨rfl, HR.out, Kep.refl _ _⟩
  · obtain ⟨_, rfl⟩ | ⟨e, q, fb, h1, _⟩ := hf
    · have IT := Lib.hid (itemU b A n c zs k x tl e bad k' f' w hs hw hm (by rw [← hs.sl.len]; exact hk) hx)
      clear hs hw hm hk hx
      go_enter Try.func22, Try.ntmps22
      go_wp2_with fail
      refine (IT.out).mono ?_
      rintro e w' ⟨rfl, h1, h2⟩
      have H1 := Lib.hid h1
      have H2 := Lib.hid h2
      clear h1 h2
      go_wp2
      go_ret
      exact ⟨rfl, H1.out, H2.out⟩
    · cases h1
end Cd
end Go.Proofs.Ytgalhpejihmhkaa
end

section
/-
  What N and Blob of a reader answer in this program, and Fail.
  Conditions: the reader is one that NewReader made of at most 10^6 bytes.
-/
namespace Go.Proofs.Ytgalhpejihmhkaa
open Go.RowKit Go.Shelf
set_option linter.unusedVariables false
namespace Cd

theorem bel_cell {w w' : World} (h : Bel w w') {b o : Nat} {v : Value} (hc : w.cell? ⟨b, o, none⟩ = some v) : w'.cell? ⟨b, o, none⟩ = some v := (Kep.of_bel (S := fun _ => False) h).cell id hc

set_option maxRecDepth 100000 in
theorem rN (b : Nat) (zs : List Int) (k : Nat) (f : Option (Int × Int)) (least most x : Int) (k' : Nat) (f' : Option (Int × Int)) (w : World) (h : RS w b zs k f) (hr : RN zs k f least most x k' f') (hm : most ≤ 9223372036854775807) :
    Calls Try.prog 20 #[.pointer (some ⟨b, 0, none⟩), .int .i64 least, .int .i64 most] w fun e w' => e = .returned (.int .i64 x) ∧ RS w' b zs k' f' ∧ Kep (fun i => i = b) w w' := by
  have b0 : Bel w ((w.alloc (.cells #[.int .i64 least] 3)).alloc (.cells #[.int .i64 most] 3)) := ((Bel.refl w).alloc _).alloc _
  have HB0 := Lib.hid b0
  have hbl : b < w.heap.size := by obtain ⟨A, n, c, F, hs, _⟩ := h; exact hs.blk.lt
  obtain ⟨A, n, c, F, hs, hf⟩ := h.bel b0
  have p1 : ((w.alloc (.cells #[.int .i64 least] 3)).alloc (.cells #[.int .i64 most] 3)).cell? ⟨w.heap.size, 0, none⟩ = some (.int .i64 least) := ((Blk.new w _ _).alloc _).cell 0 rfl
  have p2 : ((w.alloc (.cells #[.int .i64 least] 3)).alloc (.cells #[.int .i64 most] 3)).cell? ⟨w.heap.size + 1, 0, none⟩ = some (.int .i64 most) := by
    have := (Blk.new (w.alloc (.cells #[.int .i64 least] 3)) #[.int .i64 most] 3).cell 0 rfl
    rwa [World.size_alloc] at this
  have HP1 := Lib.hid p1
  have HP2 := Lib.hid p2
  rcases hr with ⟨p, rfl, rfl, rfl, rfl⟩ | ⟨rfl, tl, e, bad, hw, hmv, hk, hx⟩
  · obtain ⟨_, _⟩ | ⟨e, q, fb, h1, rfl, h3, h4, h5⟩ := hf
    · contradiction
    have IT := Lib.hid (itemN_fault b A n c zs k' ⟨fb, 0, none⟩ (.func (.func 37) #[] #[.pointer (some ⟨w.heap.size, 0, none⟩), .pointer (some ⟨w.heap.size + 1, 0, none⟩)]) _ hs)
    have HR : Hid (RS _ b zs k' (some p)) := ⟨A, n, c, _, hs, .inr ⟨e, q, fb, h1, rfl, h3, h4, h5⟩⟩
    clear hs h1 h3 h4 h5 p1 p2 b0 h
    go_enter Try.func20, Try.ntmps20
    go_wp2_with fail
    refine (IT.out).mono ?_
    rintro e w' ⟨rfl, rfl⟩
    go_wp2
    go_ret
    exact ⟨rfl, HR.out, Kep.of_bel HB0.out⟩
  · obtain ⟨_, rfl⟩ | ⟨e, q, fb, h1, _⟩ := hf
    · have IT := Lib.hid (itemN b A n c zs k x tl e bad k' f' _ hs ⟨w.heap.size, 0, none⟩ ⟨w.heap.size + 1, 0, none⟩ (fun w' hb => n1 A n c zs k least most x tl e bad w.heap.size (w.heap.size + 1) w' (hs.sl.bel hb) hs.len hs.bytes hw (bel_cell hb HP1.out) (bel_cell hb HP2.out) hm) hmv (by rw [← hs.sl.len]; exact hk) hx)
      clear hs hw hmv hk hx p1 p2 b0 h hm
      go_enter Try.func20, Try.ntmps20
      go_wp2_with fail
      refine (IT.out).mono ?_
      rintro e w' ⟨rfl, h1, h2⟩
      have H1 := Lib.hid h1
      have H2 := Lib.hid h2
      clear h1 h2
      go_wp2
      go_ret
      exact ⟨rfl, H1.out, (Kep.of_bel HB0.out).trans H2.out⟩
    · cases h1


/-- What Fail makes of a fault. -/
def failOf (f : Option (Int × Int)) (e p : Int) : Option (Int × Int) := if e = 0 then f else match f with
  | some q => some q
  | none => some (e, p)

end Cd
end Go.Proofs.Ytgalhpejihmhkaa
end

section
/-
  What Hash of a writer and of a reader answer in this program.
  Conditions: objects that were made; a hash of 32 bytes.
-/
namespace Go.Proofs.Ytgalhpejihmhkaa
open Go.RowKit Go.Shelf
set_option linter.unusedVariables false
namespace Cd

/-- A hash, as the program keeps it: 32 bytes. -/
abbrev hash (hs : List Int) : Value := .agg (hs.map (Value.int .u8)).toArray

theorem sl_box (w : World) (hs : List Int) (t : TypeId) (h : hs.length = 32) : Sl (w.alloc (.cells (hs.map (Value.int .u8)).toArray t)) (some ⟨w.heap.size, 0, none⟩) 32 32 hs := by
  refine ⟨⟨h, fun hn => ⟨w.heap.size, 0, rfl, by simp, fun i hi => ?_⟩⟩, Nat.le_refl _, fun h => by cases h⟩
  rw [Nat.zero_add, World.cell?_alloc_new, List.getElem?_toArray, List.getElem?_map, List.getElem?_eq_getElem (by omega), getD_eq _ _ (by omega)]
  rfl

set_option maxRecDepth 100000 in
set_option maxHeartbeats 1000000 in
theorem wHash (b : Nat) (L : Int) (v : Value) (out : List Int) (base : Nat) (hs : List Int) (w : World) (h : WS w b L v 0 out base) (hl : hs.length = 32) :
    Calls Try.prog 58 #[.pointer (some ⟨b, 0, none⟩), hash hs] w fun e w' => ∃ r, e = .returned (.int .i64 r) ∧ After w' b L r out hs base ∧ Kep (Own2 b v) w w' := by
  have H := Lib.hid h
  have hbl := h.blk.lt
  have hrl := h.row_lt
  have bb : Bel w ((w.alloc (.cells (hs.map (Value.int .u8)).toArray 26)).alloc (.cells #[.slice (some ⟨w.heap.size, 0, none⟩) 32 32] 22)) := ((Bel.refl w).alloc _).alloc _
  have hblk : Blk ((w.alloc (.cells (hs.map (Value.int .u8)).toArray 26)).alloc (.cells #[.slice (some ⟨w.heap.size, 0, none⟩) 32 32] 22)) (w.heap.size + 1) #[.slice (some ⟨w.heap.size, 0, none⟩) 32 32] 22 := by
    have := Blk.new (w.alloc (.cells (hs.map (Value.int .u8)).toArray 26)) #[.slice (some ⟨w.heap.size, 0, none⟩) 32 32] 22
    rwa [World.size_alloc] at this
  have WR := Lib.hid (write b L v out base (w.heap.size + 1) [(some ⟨w.heap.size, 0, none⟩, 32, 32, hs)] _ (h.bel bb) (parts_one hblk ((sl_box w hs 26 hl).bel ((Bel.refl _).alloc _))) (by omega) (fun e => by have := hrl _ e; omega)
    (by
      intro i A' n' c' zs' hi y hy
      match i, hi with
      | 0, hi =>
        simp at hi
        obtain ⟨rfl, rfl, rfl, rfl⟩ := hi
        injection hy with hy
        subst hy
        exact ⟨Nat.ne_of_gt hbl, fun e => Nat.lt_irrefl _ (hrl _ e)⟩)
    (by
      intro i A' n' c' zs' hi
      match i, hi with
      | 0, hi => simp at hi; omega) (by simp))
  have HBB := Lib.hid bb
  clear h hl bb hblk hrl
  go_enter Try.func58, Try.ntmps58
  go_wp2_with fail
  refine (WR.out).mono ?_
  rintro e w2 ⟨r, rfl, ha, hk⟩
  have HA := Lib.hid ha
  have HK := Lib.hid ((Kep.of_bel HBB.out).trans hk)
  clear ha hk
  go_wp2
  go_ret
  have h1 := HA.out
  rw [show flat [(some (⟨w.heap.size, 0, none⟩ : Addr), 32, 32, hs)] [(some (⟨w.heap.size, 0, none⟩ : Addr), 32, 32, hs)].length = hs by simp [flat]] at h1
  exact ⟨r, rfl, h1, HK.out⟩

theorem info_hash : (Try.prog.info? 26).map (·.size) = some 32 := by kernel_rfl
theorem zero_hash : (List.replicate 32 (0 : Int)).map (Value.int .u8) = List.replicate 32 (Value.int .u8 0) := by simp

set_option maxRecDepth 100000 in
set_option maxHeartbeats 1000000 in
theorem itemH_fault (b : Nat) (A : Option Addr) (n c : Nat) (zs : List Int) (k : Nat) (x : Addr) (fn : Value) (w : World) (h : RSt w b A n c zs k (some x)) :
    Calls Try.prog 39 #[.pointer (some ⟨b, 0, none⟩), fn] w fun e w' => e = .returned (hash (List.replicate 32 0)) ∧ Bel w w' := by
  have T := Lib.hid (fun w' (hw : Bel w w') => trouble b A n c zs k _ w' (h.bel hw))
  clear h
  go_enter Try.func39, Try.ntmps39
  go_wp2_with (go_at_call 42; refine (T.out _ ((Bel.refl _).alloc _)).mono ?_; rintro e w' ⟨rfl, rfl⟩)
  refine bodyPost_ret (results_cell_row Try.results39 _ _ w.heap.size 26 ((List.replicate 32 (0 : Int)).map (Value.int .u8)).toArray (0, 0) _ rfl (World.alloc_heap_new w _) Try.underlying26 rfl info_hash) rfl ⟨rfl, (Bel.refl _).alloc _⟩

theorem range_new {w : World} {C : Array Value} {t : TypeId} : (w.alloc (.cells C t)).rangeAt w.heap.size 0 C.toList := fun j v hv => by
  rw [Nat.zero_add]
  exact (Blk.new w C t).cell j (by simpa using hv)
theorem there_new {w : World} {C : Array Value} {t : TypeId} {n : Nat} (h : n ≤ C.size) : (w.alloc (.cells C t)).there w.heap.size 0 n := fun j hj => by
  rw [Nat.zero_add]
  refine ⟨?_, (Blk.new w C t).frozen j⟩
  rw [(Blk.new w C t).cell j (Array.getElem?_eq_getElem (by omega))]
  rfl
theorem cell_far {w : World} {b : Nat} {vs : List Value} {c o : Nat} {v : Value} (h : w.cell? ⟨c, o, none⟩ = some v) (hne : c ≠ b) : (w.setCells b 0 vs).cell? ⟨c, o, none⟩ = some v := by
  have h1 : w.rangeAt c o [v] := fun j u hu => by
    match j, hu with
    | 0, hu => simp at hu; subst hu; exact h
  have := World.rangeAt_setCells_apart h1 b 0 vs (.inl hne) 0 v rfl
  simpa using this
theorem frozen_far {w : World} {b : Nat} {vs : List Value} {c o : Nat} {v : Value} (h : w.cell? ⟨c, o, none⟩ = some v) (hf : w.frozen? ⟨c, o, none⟩ = false) : (w.setCells b 0 vs).frozen? ⟨c, o, none⟩ = false := by
  have h1 : w.there c o 1 := fun j hj => by
    obtain rfl : j = 0 := by omega
    exact ⟨by rw [Nat.add_zero, h]; rfl, hf⟩
  have := (World.there_setCells h1 b 0 vs 0 (by omega)).2
  simpa using this
theorem kep_setCells (b : Nat) : ∀ (vs : List Value) (o : Nat) (w : World), Kep (fun i => i = b) w (w.setCells b o vs) := by
  intro vs
  induction vs with
  | nil => intro o w; exact Kep.refl _ _
  | cons v vs ih => intro o w; exact (Kep.set_self (Kep.refl _ w) o v).trans (ih (o + 1) _)

theorem range_kep {S : Nat → Prop} {w w' : World} {b o : Nat} {cs : List Value} (h : w.rangeAt b o cs) (hk : Kep S w w') (hs : ¬ S b) : w'.rangeAt b o cs := fun j v hv => hk.cell hs (h j v hv)
theorem range_set {w : World} {b o : Nat} {cs : List Value} (h : w.rangeAt b o cs) {c : Nat} (hne : b ≠ c) (i : Nat) (u : Value) : (w.setCell ⟨c, i, none⟩ u).rangeAt b o cs := range_kep h (Kep.set_self (Kep.refl _ w) i u) hne
abbrev Z32 : Array Value := #[.int .u8 0, .int .u8 0, .int .u8 0, .int .u8 0, .int .u8 0, .int .u8 0, .int .u8 0, .int .u8 0, .int .u8 0, .int .u8 0, .int .u8 0, .int .u8 0, .int .u8 0, .int .u8 0, .int .u8 0, .int .u8 0, .int .u8 0, .int .u8 0, .int .u8 0, .int .u8 0, .int .u8 0, .int .u8 0, .int .u8 0, .int .u8 0, .int .u8 0, .int .u8 0, .int .u8 0, .int .u8 0, .int .u8 0, .int .u8 0, .int .u8 0, .int .u8 0]
theorem z32 : Z32 = ((List.replicate 32 (0 : Int)).map (Value.int .u8)).toArray := by rfl

theorem results_cic {fn : Func} {p q s : Tmp} {tp ts : TypeId} (h : fn.results = #[.cell p tp, .tmp q, .cell s ts]) (tmps : Array Value) (w : World) (a c : Addr) (X Y U : Value)
    (hp : tmps.getD p undef = .pointer (some a)) (hs : tmps.getD s undef = .pointer (some c)) (hq : tmps.getD q undef = U) (hX : (loadVar tp a).run Try.prog w = .ok X w) (hY : (loadVar ts c).run Try.prog w = .ok Y w) :
    (results fn tmps).run Try.prog w = .ok (.tuple #[X, U, Y]) w := by
  have hp' : tmps[p]?.getD undef = .pointer (some a) := by simpa using hp
  have hs' : tmps[s]?.getD undef = .pointer (some c) := by simpa using hs
  have hq' : tmps[q]?.getD undef = U := by simpa using hq
  simp [results, h, hp', hs', hq', asAddr, hX, hY]
theorem load_fault {w : World} {b : Nat} {e p : Int} (h0 : w.cell? ⟨b, 0, none⟩ = some (.int .i64 e)) (h1 : w.cell? ⟨b, 1, none⟩ = some (.int .i64 p)) : (loadVar 32 ⟨b, 0, none⟩).run Try.prog w = .ok (.agg #[.int .i64 e, .int .i64 p]) w :=
  run_loadVar_mid (P := Try.prog) w b 0 32 [.int .i64 e, .int .i64 p] _ (fun j v hv => by
    match j, hv with
    | 0, hv => simp at hv; subst hv; exact h0
    | 1, hv => simp at hv; subst hv; exact h1) Try.underlying32 rfl (by kernel_rfl)

set_option maxRecDepth 100000 in
set_option maxHeartbeats 1000000 in
theorem hash1_short (A : Option Addr) (n c : Nat) (k : Nat) (w : World) (hn : n ≤ 1000000) (hk : k ≤ n) (hs : n < k + 32) :
    Calls Try.prog 40 #[.slice A n c, .int .i64 (k : Int)] w fun r w' => r = .returned (.tuple #[hash (List.replicate 32 0), .int .i64 0, .agg #[.int .i64 6, .int .i64 (k : Int)]]) ∧ Bel w w' := by
  have h1 : (n : Int) - (k : Int) < 32 := by omega
  have h2 : (0 : Int) ≤ (n : Int) - (k : Int) := by omega
  obtain ⟨V, hV⟩ : ∃ V, hash (List.replicate 32 0) = V := ⟨_, rfl⟩
  have HV := Lib.hid hV
  rw [hV]
  clear hV
  go_enter Try.func40, Try.ntmps40
  go_upto_region 2 with fail
  obtain ⟨W, hW⟩ : ∃ W, (w.alloc (.cells Z32 26)).alloc (.cells #[.int .i64 0, .int .i64 0] 32) = W := ⟨_, rfl⟩
  have R := Lib.hid (show W.rangeAt w.heap.size 0 Z32.toList by rw [← hW]; exact World.rangeAt_alloc range_new _)
  have TH := Lib.hid (show W.there w.heap.size 0 32 by rw [← hW]; exact World.there_alloc (there_new (by decide)) _)
  have B2 := Lib.hid (show Blk W (w.heap.size + 1) #[.int .i64 0, .int .i64 0] 32 by
    rw [← hW]
    have := Blk.new (w.alloc (.cells Z32 26)) #[.int .i64 0, .int .i64 0] 32
    rwa [World.size_alloc] at this)
  have HB := Lib.hid (show Bel w W by rw [← hW]; exact ((Bel.refl w).alloc _).alloc _)
  rw [hW]
  clear hW
  have k0 : (W.setCells w.heap.size 0 Z32.toList).cell? ⟨w.heap.size + 1, 0, none⟩ = some (.int .i64 0) := cell_far (B2.out.cell 0 rfl) (by omega)
  have k1 : (W.setCells w.heap.size 0 Z32.toList).cell? ⟨w.heap.size + 1, 1, none⟩ = some (.int .i64 0) := cell_far (B2.out.cell 1 rfl) (by omega)
  have k2 : (W.setCells w.heap.size 0 Z32.toList).frozen? ⟨w.heap.size + 1, 0, none⟩ = false := frozen_far (B2.out.cell 0 rfl) (B2.out.frozen 0)
  have k3 : (W.setCells w.heap.size 0 Z32.toList).frozen? ⟨w.heap.size + 1, 1, none⟩ = false := frozen_far (B2.out.cell 1 rfl) (B2.out.frozen 1)
  obtain ⟨Z, hZ⟩ : ∃ Z, Z32.toList = Z := ⟨_, rfl⟩
  have HL := Lib.hid (show Z.length = 32 by rw [← hZ]; rfl)
  have HZ := Lib.hid (show Z = (List.replicate 32 (0 : Int)).map (Value.int .u8) by rw [← hZ, z32])
  rw [hZ] at R k0 k1 k2 k3
  clear hZ
  have HI := Lib.hid (show (Try.prog.info? 26).map (·.size) = some Z.length by rw [HL.out]; exact info_hash)
  have HO := Lib.hid (all_oneCell_toArray (cs := Z) (by rw [HZ.out]; exact ints_ok _))
  have hz : Z.toArray.size = 32 := by simp [HL.out]
  have TH2 := Lib.hid (show W.there w.heap.size 0 Z.toArray.size by rw [hz]; exact TH.out)
  have HI2 := Lib.hid (show (Try.prog.info? 26).map (·.size) = some Z.toArray.size by rw [hz]; exact info_hash)
  have R3 := Lib.hid (show (W.setCells w.heap.size 0 Z).rangeAt w.heap.size 0 Z from World.rangeAt_setCells_same W w.heap.size 0 Z (by rw [HL.out]; exact TH.out))
  have HK := Lib.hid (show Bel w (W.setCells w.heap.size 0 Z) from Kep.bel HB.out (kep_setCells w.heap.size Z 0 W) (fun i hi => by rw [hi]; exact Nat.le_refl _))
  clear hz
  go_wp2_with (first | (refine wpList_load_mid rfl 26 (.tmp 4) rfl w.heap.size 0 rfl Z _ R.out Try.underlying26 rfl HI.out ?_) | (refine wpList_store_mid rfl 26 (.tmp 4) (.tmp 12) rfl w.heap.size 0 Z.toArray rfl rfl TH2.out HI2.out HO.out ?_))
  have R4 := range_set (range_set R3.out (c := w.heap.size + 1) (by omega) 0 (.int .i64 6)) (c := w.heap.size + 1) (by omega) 1 (.int .i64 (k : Int))
  have BK := ((B2.out.kep (kep_setCells w.heap.size Z 0 W) (by omega)).set 0 (.int .i64 6)).set 1 (.int .i64 (k : Int))
  refine bodyPost_ret (results_cic Try.results40 _ _ ⟨w.heap.size, 0, none⟩ ⟨w.heap.size + 1, 0, none⟩ (.agg Z.toArray) (.agg #[.int .i64 6, .int .i64 (k : Int)]) (.int .i64 0) rfl rfl rfl (run_loadVar_mid (P := Try.prog) _ _ _ 26 Z _ R4 Try.underlying26 rfl HI.out) (load_fault (BK.cell 0 rfl) (BK.cell 1 rfl))) rfl ⟨?_, ?_⟩
  · rw [← HV.out, HZ.out]
  · exact (HK.out.set (by simp) _).set (by simp) _
end Cd
end Go.Proofs.Ytgalhpejihmhkaa
end
