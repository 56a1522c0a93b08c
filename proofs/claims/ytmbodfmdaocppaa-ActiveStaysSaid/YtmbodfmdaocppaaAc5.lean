/-
  What active.Choose answers of any lists. Conditions: at most a million elements.
-/
import Derived.Test.YtmbodfmdaocppaaAcT
namespace Go.Proofs.Ytmbodfmdaocppaa
open Go.RowKit Go.Shelf
set_option linter.unusedVariables false
set_option linter.unusedSimpArgs false
namespace Ac
open Kk Pm Ro

theorem rb_own_of {α : Type} {K : Rw.Row α} {t : TypeId} {w : World} {base g n c : Nat} {l : List α} (h : w.ownsRow base t K.z (.slice (some ⟨g, 0, none⟩) n c) n (Rw.flat K l)) (hl : l.length = n) : Rw.RB K t w g l c ∧ base ≤ g ∧ c ≤ maxLen := by
  subst hl
  rcases h.2 with ⟨e, _⟩ | ⟨g', cap, cur, e, hbg, hg, hnc, hm, hcs, ht⟩
  · cases e
  · injection e with e1 e2 e3
    injection e1 with e1
    injection e1 with e1
    subst e1 e3
    exact ⟨⟨⟨cur, hg, ht, hcs⟩, hnc⟩, hbg, hm⟩
theorem own_of_rb {α : Type} {K : Rw.Row α} {t : TypeId} {w : World} {base g cap n : Nat} {l : List α} (h : Rw.RB K t w g l cap) (hb : base ≤ g) (hm : cap ≤ maxLen) (hl : l.length = n) : Rw.OwnR K t w base (.slice (some ⟨g, 0, none⟩) n cap) l := by
  subst hl
  obtain ⟨cur, h1, h2, h3⟩ := h.blk
  exact ⟨Rw.flat_len K l, .inr ⟨g, cap, cur, rfl, hb, h1, h.cap, hm, h3, h2⟩⟩
theorem made_bs (w : World) (n : Nat) (hn : n ≤ 1000000000) : ∃ w', (Instr.makeSlice 23 (.int .i64 (n : Int)) (.int .i64 (n : Int))).run Try.prog w = .ok (.slice (some ⟨w.heap.size, 0, none⟩) n n) w' ∧ Rw.RB bR 4 w' w.heap.size (List.replicate n false) n ∧ Bel w w' := by
  obtain ⟨i0, h1, hz0, hz1, hz2⟩ := info_parts1 zero_b
  obtain ⟨w', h2, h3, h4⟩ := run_make_full (P := Try.prog) w w.heap.size 23 4 i0 (.bool false) 1 underB h1 hz0 hz1 .i64 .i64 n (by rw [hz2]; omega) (by unfold maxLen; omega) (Nat.le_refl _)
  have e : (madeCells (Value.bool false).cells (n * 1)).toList = Rw.flat bR (List.replicate n false) := by
    rw [flat_b]
    apply List.ext_getElem?
    intro i
    simp [madeCells, Value.cells, List.getElem?_map, List.getElem?_replicate]
    try split <;> simp_all [Nat.mod_one]
  rw [e] at h3
  exact ⟨w', h2, (rb_own_of h3 (List.length_replicate ..)).1, (Bel.refl w).grown h4 (fun k hk => by cases hk)⟩
set_option maxRecDepth 100000 in
set_option maxHeartbeats 2000000 in
/-- Choose. -/
theorem choose (T : Option Addr) (tn tc : Nat) (t : List Int) (M : Option Addr) (mn mc : Nat) (m : List Bool) (most : Int) (w : World) (ht : Rw.RS uR w T tn tc t) (hm : Rw.RS bR w M mn mc m) (htn : tn ≤ 1000000) (hmn : mn ≤ 1000000) (m0 : -9223372036854775808 ≤ most) (m1 : most ≤ 9223372036854775807) :
    Calls Try.prog 12 #[.slice T tn tc, .slice M mn mc, .int .i64 most] w fun e w' => ∃ v, e = .returned v ∧ OwnB w' w.heap.size v (ch t m most) ∧ Bel w w' := by
  obtain ⟨N, hN⟩ : ∃ N, max tn mn = N := ⟨_, rfl⟩
  have hNi := fun V => max_run (tn : Int) (mn : Int) V
  rw [show max (tn : Int) (mn : Int) = (N : Int) by omega] at hNi
  have HNA := Lib.hid (show all t m = N by unfold all; rw [ht.len, hm.len, ← hN])
  have hNb : N ≤ 1000000 := by omega
  obtain ⟨w1, hmk, hrb, hbel⟩ := made_bs w N (by omega)
  obtain ⟨g, hg⟩ : ∃ g, w.heap.size = g := ⟨_, rfl⟩
  have hg1 : g < w1.heap.size := by obtain ⟨cur, h, _⟩ := hrb.blk; rw [← hg]; exact h.lt
  have HOLD := Lib.hid (show 0 < tn → ∀ x, T = some x → x.block < g from fun h0 x hx => by
    obtain ⟨b, o, e, hlt, _⟩ := ht.row h0
    rw [hx] at e
    injection e with e
    subst e
    show b < g
    omega)
  have CE := Lib.hid (eligible T tn tc t M mn mc m w1 (ht.bel hbel) (hm.bel hbel) htn hmn)
  have HB1 := Lib.hid hbel
  have HG := Lib.hid hg
  have HG1 := Lib.hid hg1
  rw [hg] at hrb hmk
  have HRB := Lib.hid hrb
  clear ht hm hbel hrb hN hg1
  go_enter Try.func12, Try.ntmps12
  go_wp2_with fail
  refine CE.out.mono ?_
  rintro e w2 ⟨p, v, f, n, rfl, hR, hB, hH⟩
  obtain ⟨A, c, hv⟩ := hR.rq.len
  subst hv
  have hns := hR.few
  have HCT := Lib.hid (bag_ct hB)
  have H0 := Lib.hid (show ∃ v' f' r, Rq w1.heap.size w2.heap.size w2 p v' T tn tc t f' (n - 0) ∧ Bag (Left t m r) f' (n - 0) ∧ Heap t f' (n - 0) ∧ Tkn t m r ∧ r.length = 0 ∧ Rw.RB bR 4 w2 g (inL r N) N ∧ Bel w w2 from
    ⟨_, f, [], hR.rq, hB.congr fun x => ⟨fun h => ⟨h, by simp⟩, fun h => h.1⟩, hH, Tkn.nil_ t m, rfl, by rw [inL_nil]; exact HRB.out.bel hR.bel, HB1.out.trans hR.bel⟩)
  have c0 := hR.blk.cell 0 rfl
  have CL := Lib.hid (len_ A n c w2)
  have HBB := Lib.hid (Below.size hR.bel)
  obtain ⟨b0, hb0⟩ : ∃ b0, w1.heap.size = b0 := ⟨_, rfl⟩
  obtain ⟨b1, hb1⟩ : ∃ b1, w2.heap.size = b1 := ⟨_, rfl⟩
  rw [hb0, hb1] at H0 HBB
  rw [hb0] at HG1
  have hmi := fun V => min_run most (n : Int) V
  obtain ⟨D, hD⟩ : ∃ D, min most (n : Int) = D := ⟨_, rfl⟩
  rw [hD] at hmi
  have HD := Lib.hid hD
  have hDn : D ≤ n := by omega
  clear hR hB hH CE hb0 hb1 hD hg hmk hNi
  go_wp2_with fail
  refine CL.out.mono ?_
  rintro e w3 ⟨rfl, rfl⟩
  clear CL
  go_wp2_with fail
  go_loopw [25] (fun s25 wr => ∃ j : Nat, s25 = .int .i64 j ∧ j ≤ n ∧ (j : Int) ≤ max D 0 ∧ Hid (∃ v' f' r, Rq b0 b1 wr p v' T tn tc t f' (n - j) ∧ Bag (Left t m r) f' (n - j) ∧ Heap t f' (n - j) ∧ Tkn t m r ∧ r.length = j ∧ Rw.RB bR 4 wr g (inL r N) N ∧ Bel w wr)) (fun s25 _ => n - (intOf s25).toNat)
  case atStart => exact ⟨0, rfl, Nat.zero_le _, by omega, H0⟩
  case round =>
    obtain ⟨j, rfl, hjn, hjD, hh⟩ := hrel
    obtain ⟨v', f', r, hR, hB, hH, hT, hl, hrb, hBe⟩ := hh.out
    clear H0 hh
    by_cases hlt : (j : Int) < D
    · obtain ⟨n', hn'⟩ : ∃ n', n - j = n' + 1 := ⟨n - j - 1, by omega⟩
      rw [hn'] at hR hB hH
      have CN := Lib.hid (next_q wr hR hB hH (by omega))
      have HN := Lib.hid (hT.next hB hH)
      have HOL := Lib.hid hR.old
      have HRB2 := Lib.hid hrb
      have HBE := Lib.hid hBe
      have HL := Lib.hid hl
      clear hR hB hH hT hl hrb hBe
      generalize f' 0 = y at *
      go_wp2_with fail
      refine CN.out.mono ?_
      rintro e w4 ⟨rfl, v2, f2, hR2, hB2, hH2, hK2⟩
      have hy : y < N := by have := cn_all HN.out.2.2; have := HNA.out; omega
      have hrb4 := HRB2.out.kep hK2 (fun h => by have := HG1.out; omega)
      have hrs := hrb4.rs
      rw [inL_len] at hrs
      obtain ⟨bb, oo, xx, e, _, _, hc⟩ := bool_at hrs hy
      injection e with e
      injection e with e1 e2
      subst e1 e2
      rw [Nat.zero_add] at hc
      have hfz := hrb4.frozen y
      have hrb5 := hrb4.set (i := y) (o := 0) (r' := true) (v := .bool true) (by decide) (inL_at r hy) rfl
      rw [inL_set r hy] at hrb5
      have hk5 : Kep (fun b => b = g) w4 (w4.setCell ⟨g, y, none⟩ (.bool true)) := Kep.set_self (Kep.refl _ _) _ _
      have HF := Lib.hid (show ∃ v' f' r, Rq b0 b1 (w4.setCell ⟨g, y, none⟩ (.bool true)) p v' T tn tc t f' (n - (j + 1)) ∧ Bag (Left t m r) f' (n - (j + 1)) ∧ Heap t f' (n - (j + 1)) ∧ Tkn t m r ∧ r.length = j + 1 ∧ Rw.RB bR 4 (w4.setCell ⟨g, y, none⟩ (.bool true)) g (inL r N) N ∧ Bel w (w4.setCell ⟨g, y, none⟩ (.bool true)) from by
        rw [show n - (j + 1) = n' by omega]
        refine ⟨v2, f2, r ++ [y], hR2.kep hk5 (fun b hb h => by have := HG1.out; omega) (fun h0 x hx e => by have := HOLD.out h0 x hx; omega), hB2.congr HN.out.2.1, hH2, HN.out.1, by rw [List.length_append, HL.out]; rfl, by simpa [bR] using hrb5, (Kep.bel HBE.out hK2 (fun i h => by have := HG.out; have := HG1.out; omega)).set (p := ⟨g, y, none⟩) (by have := HG.out; show w.heap.size ≤ g; omega) _⟩)
      have hy3 : (y : Int) < N := by omega
      have hy0 : (0 : Int) ≤ y := by omega
      have hw1 : IntKind.i64.wrap ((j : Int) + 1) = ((j + 1 : Nat) : Int) := by rw [IntWalk.i64_in _ (by omega)]; omega
      clear hR2 hB2 hH2 hK2 CN hrb4 hrs hrb5 hk5 HN HRB2 HBE HL HOL
      go_wp2_with fail
      go_roundw
      case rel => exact ⟨j + 1, rfl, by omega, by omega, HF⟩
      case measure => simp [intOf]; omega
    · have HF := Lib.hid (show OwnB wr w.heap.size (.slice (some ⟨g, 0, none⟩) N N) (ch t m most) from by
        rw [hT.ch (most := most) (by have := HD.out; have := HCT.out; omega), HNA.out]
        exact own_of_rb hrb (by have := HG.out; omega) (by unfold maxLen; omega) (inL_len _ _))
      have HBE := Lib.hid hBe
      clear hR hB hH hT hl hrb hBe
      go_wp2_with fail
      go_ret
      exact ⟨_, rfl, HF.out, HBE.out⟩
end Ac
end Go.Proofs.Ytmbodfmdaocppaa
