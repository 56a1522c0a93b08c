/-
  A journal's shut: the topmost level is closed, its changes are handed to an iterator. Conditions: the journal lies in memory as JX says; a level is open.
-/
import Derived.Test.YtogphhhlbofgkaaJn7
namespace Go.Proofs.Ytogphhhlbofgkaa
open Go.RowKit Go.Shelf Go.Maps
set_option linter.unusedVariables false
attribute [local go_sem] Oper.semAt_some
namespace Jn
open Kk Pm Bk

section
variable {w w1 : World} {M I : Nat → Prop} {pj : Nat} {zs : List Int} {t : List Ch} {ls : List (List Ch)} {cb cap : Nat} {nw m : Option Addr} {mb g cp : Nat} {rs : List (Option Addr × Nat)}
/-- What is left when the topmost level is cut off. -/
theorem JX.shut (h : JX w M I pj zs (t :: ls) cb cap nw (.slice (some ⟨g, 0, none⟩) (rs.length + 1) cp) ((m, mb) :: rs)) (hb : Bel w w1) :
    JX ((((w1.setCell ⟨pj, 2, none⟩ (.pointer m)).setCell ⟨g, rs.length * 2, none⟩ (.pointer none)).setCell ⟨g, rs.length * 2 + 1, none⟩ (.map none)).setCell ⟨pj, 3, none⟩ (.slice (some ⟨g, 0, none⟩) rs.length rs.length)) M I pj zs ls cb cap m (.slice (some ⟨g, 0, none⟩) rs.length rs.length) rs := by
  have hx := h.bel hb
  obtain ⟨g', cp', cur, e, hbk, h1, h2, h3, h4⟩ := hx.lev.some_
  injection e with e1 e2 e3
  injection e1 with e1
  injection e1 with e1
  subst e1 e3
  have hgp : g ≠ pj := by
    rintro rfl
    have := (show w1.heap[g]? = _ from hbk).symm.trans hx.blk
    cases this
  obtain ⟨w3, hw3⟩ : ∃ w3, (((w1.setCell ⟨pj, 2, none⟩ (.pointer m)).setCell ⟨g, rs.length * 2, none⟩ (.pointer none)).setCell ⟨g, rs.length * 2 + 1, none⟩ (.map none)).setCell ⟨pj, 3, none⟩ (.slice (some ⟨g, 0, none⟩) rs.length rs.length) = w3 := ⟨_, rfl⟩
  have K : Kep (fun b => b = pj ∨ b = g) w1 w3 := by
    rw [← hw3]
    exact ((((Kep.refl _ w1).set (.inl rfl) _).set (.inr rfl) _).set (.inr rfl) _).set (.inl rfl) _
  have BJ : Blk w3 pj (jc pj cb zs.length cap m (.slice (some ⟨g, 0, none⟩) rs.length rs.length)) 49 := by
    rw [← hw3]
    exact ((((hx.blk.set 2 (.pointer m)).other (fun e => hgp e.symm) _ _).other (fun e => hgp e.symm) _ _).set 3 _)
  have BG : Blk w3 g ((cur.setIfInBounds (rs.length * 2) (.pointer none)).setIfInBounds (rs.length * 2 + 1) (.map none)) 96 := by
    rw [← hw3]
    exact ((((hbk.other hgp _ _).set _ _).set _ _).other hgp _ _)
  rw [hw3]
  have hIk : ∀ b, I b → ¬ (b = pj ∨ b = g) := by
    rintro b hI (rfl | rfl)
    · exact hx.apart _ hx.mj hI
    · exact hx.apart _ (hx.ml _ rfl) hI
  have hone := hx.one
  rw [List.map_cons, List.nodup_cons] at hone
  obtain ⟨s1, s2, s3, s4⟩ := hx.stk
  refine { blk := BJ, row := ?_, lev := ?_, stk := ?_, one := hone.2, mj := hx.mj, mc := hx.mc, ml := fun k e => hx.ml k e, mm := fun r hr => hx.mm r (List.mem_cons_of_mem _ hr), apart := hx.apart, inM := fun b hb => Nat.lt_of_lt_of_le (hx.inM b hb) K.size, inI := fun b hb => (by obtain ⟨cs, t, h3⟩ := hx.inI b hb; exact ⟨cs, t, h3.kep K (hIk b hb)⟩), words := hx.words, least := hx.least, most := hx.most, deep := by have := hx.deep; simp at this; omega }
  · refine K.owns (fun k e => ?_) hx.row
    obtain rfl : cb = k := by simpa [Value.ownBlock] using e
    rintro (e | e)
    · exact hx.cbj e
    · obtain ⟨cur2, hc2⟩ := hx.cbk
      rw [e] at hc2
      have := (show w1.heap[g]? = _ from hbk).symm.trans hc2
      cases this
  · refine .inr ⟨g, rs.length, _, rfl, BG, Nat.le_refl _, by omega, by simp; omega, ?_⟩
    have ht : cur.toList.take (rs.length * 2) = lc rs := by
      have := congrArg (List.take (rs.length * 2)) h4
      rw [List.take_take, Nat.min_eq_left (by omega)] at this
      rw [this, ← lc_len rs, List.take_left]
    rw [← ht]
    simp only [Array.toList_setIfInBounds]
    rw [List.take_set_of_le (by omega), List.take_set_of_le (by omega)]
  · refine RStack.keep K hIk ls (fun r hr => ?_) s4
    rintro (e | e)
    · exact hx.mpj r (List.mem_cons_of_mem _ hr) e
    · obtain ⟨es, c, h5⟩ := RStack.maps _ hx.stk r (List.mem_cons_of_mem _ hr)
      rw [e] at h5
      exact not_map hbk h5
theorem shut_step (h : JX w M I pj zs (t :: ls) cb cap nw (.slice (some ⟨g, 0, none⟩) (rs.length + 1) cp) ((m, mb) :: rs)) (hb : Bel w w1) {o : Nat} {u u2 u3 u4 : Value} :
    Step w ((((w1.setCell ⟨pj, 2, none⟩ u).setCell ⟨g, o, none⟩ u2).setCell ⟨g, o + 1, none⟩ u3).setCell ⟨pj, 3, none⟩ u4) M I M I ∧ Kep M w1 ((((w1.setCell ⟨pj, 2, none⟩ u).setCell ⟨g, o, none⟩ u2).setCell ⟨g, o + 1, none⟩ u3).setCell ⟨pj, 3, none⟩ u4) := by
  have hM : M g := h.ml g rfl
  exact ⟨⟨((((Kep.of_bel hb).set h.mj _).set hM _).set hM _).set h.mj _, fun b => .inl, fun b => .inl, fun b => id⟩, ((((Kep.refl M w1).set h.mj _).set hM _).set hM _).set h.mj _⟩
theorem Mk.keep {S : Nat → Prop} {w' : World} {m : Option Addr} (h : Mk I w m) (hk : Kep S w w') (hs : ∀ b, I b → ¬ S b) : Mk I w' m := by
  rcases h with rfl | ⟨b, c, q, rfl, hc⟩
  · exact .inl rfl
  · exact .inr ⟨b, c, q, rfl, hc.keep hk hs⟩
end

set_option maxRecDepth 100000 in
set_option maxHeartbeats 2000000 in
theorem shut {w : World} {M I : Nat → Prop} {pj : Nat} {zs : List Int} {t : List Ch} {ls : List (List Ch)} (h : JW w M I pj zs (t :: ls)) :
    Calls Try.prog 71 #[.pointer (some ⟨pj, 0, none⟩)] w fun e w' => ∃ x y p m, e = .returned (.func (.func 69) #[] #[.pointer (some ⟨x, 0, none⟩), .pointer (some ⟨y, 0, none⟩)]) ∧ JW w' M I pj zs ls ∧ Step w w' M I M I ∧
      Blk w' x #[.pointer p] 46 ∧ Blk w' y #[.pointer m] 46 ∧ Chain I w' p t m ∧ Mk I w' m ∧ Chs zs.length t ∧ w.heap.size ≤ x ∧ w.heap.size ≤ y := by
  obtain ⟨cb, cap, nw, v, rs, h⟩ := h
  cases rs with
  | nil => exact h.stk.elim
  | cons r rs =>
  obtain ⟨m, mb⟩ := r
  obtain ⟨g, cp, rfl, hcp, k0, k1, kf0, kf1, hgw⟩ := h.lev.top
  have hlen : rs.length = ls.length := RStack.len ls h.stk.2.2.2
  have hd := h.deep
  simp only [List.length_cons] at hd
  have hk : rs.length ≤ 1000 := by omega
  have CH := Lib.hid (changes_top h.c2 h.c3 k0 hk)
  have c3 := h.c3
  have HX := Lib.hid h
  clear h hlen hd k0 k1 kf0 kf1
  go_enter Try.func71, Try.ntmps71
  go_wp2_with fail
  refine CH.out.mono ?_
  rintro e w1 ⟨x, y, rfl, hx, hy, hb, h1, h2⟩
  have hx1 := HX.out.bel hb
  obtain ⟨g', cp', e1, _, k0, k1, kf0, kf1, _⟩ := hx1.lev.top
  injection e1 with e1 e2 e3
  injection e1 with e1
  injection e1 with e1
  subst e1
  have f2 := hx1.blk.frozen 2
  have f3 := hx1.blk.frozen 3
  have c2w := hx1.c2
  have c3w := hx1.c3
  have hgp : g ≠ pj := by
    obtain ⟨cur, hbk⟩ := hx1.lev.blk rfl
    rintro rfl
    have := (show w1.heap[g]? = _ from hbk).symm.trans hx1.blk
    cases this
  have hpg : pj ≠ g := fun e => hgp e.symm
  have BX := Lib.hid hx
  have BY := Lib.hid hy
  have HB := Lib.hid hb
  clear hx1 hx hy hb e2 e3 c3
  generalize hkk : rs.length = k at *
  have HSZ := Lib.hid (And.intro h1 h2)
  clear h1 h2
  go_wp2_with fail
  go_ret
  subst hkk
  have hJ := JX.shut HX.out HB.out
  obtain ⟨hS, hK⟩ := shut_step (o := rs.length * 2) (u := .pointer m) (u2 := .pointer none) (u3 := .map none) (u4 := .slice (some ⟨g, 0, none⟩) rs.length rs.length) HX.out HB.out
  obtain ⟨s1, s2, s3, s4⟩ := HX.out.stk
  have hmk := RStack.mk_ _ s4
  have hI : ∀ b, I b → ¬ M b := fun b hI hM => HX.out.apart b hM hI
  have hM1 : ∀ b, w.heap.size ≤ b → ¬ M b := fun b hb hM => by have := HX.out.inM b hM; omega
  exact ⟨x, y, nw, m, rfl, ⟨cb, cap, m, _, rs, hJ⟩, hS, BX.out.kep hK (hM1 x HSZ.out.1), BY.out.kep hK (hM1 y HSZ.out.2), Chain.keep hS.kep hI _ s1, hmk.keep hS.kep hI, s3, HSZ.out.1, HSZ.out.2⟩
end Jn
end Go.Proofs.Ytogphhhlbofgkaa
