/-
  What the program's Of tells: an owner's entries, in memory of their own. Conditions: at most a billion entries.
-/
import Derived.Test.YtdpompponngmdaaGQu6
import Derived.Test.YtdpompponngmdaaQA
namespace Go.Proofs.Ytdpompponngmdaa
open Go.RowKit Go.Shelf
set_option linter.unusedVariables false
set_option linter.unusedSimpArgs false
namespace Qu
open Kk Pm

set_option maxRecDepth 100000 in
set_option maxHeartbeats 4000000 in
theorem of1 (w V0 : World) (y : Value) (m : List E8) (o' r1 r2 r3 r4 r5 r6 r7 r8 : Int) (p : Nat) (hb : Bel w V0) (ho : OwnE V0 w.heap.size y m) (hp : Blk w p #[.int .i64 o'] 3) (hm : m.length ≤ 1000000000) :
    Calls Try.prog 57 #[y, .agg #[.int .i64 r1, .int .i64 r2, .int .i64 r3, .int .i64 r4, .int .i64 r5, .int .i64 r6, .int .u64 r7, .int .u64 r8], .pointer (some ⟨p, 0, none⟩)] V0 fun e w' => ∃ v', e = .returned v' ∧ OwnE w' w.heap.size v' (m ++ if own (r1, r2, r3, r4, r5, r6, r7, r8) = o' then [(r1, r2, r3, r4, r5, r6, r7, r8)] else []) ∧ Bel w w' := by
  have B0 := Lib.hid (Blk.new V0 #[.int .i64 r1, .int .i64 r2, .int .i64 r3, .int .i64 r4, .int .i64 r5, .int .i64 r6, .int .u64 r7, .int .u64 r8] 27)
  obtain ⟨V, hV⟩ : ∃ V, V0.alloc (.cells #[.int .i64 r1, .int .i64 r2, .int .i64 r3, .int .i64 r4, .int .i64 r5, .int .i64 r6, .int .u64 r7, .int .u64 r8] 27) = V := ⟨_, rfl⟩
  have EV := Lib.hid (show Bel V0 V by rw [← hV]; exact (Bel.refl _).alloc _)
  rw [hV] at B0
  have HV := Lib.hid hV
  have HO := Lib.hid (show OwnE V w.heap.size y m from ho.bel EV.out)
  have HB0 := Lib.hid (hb.trans EV.out)
  have P1 := Lib.hid (hp.bel HB0.out)
  have HM := Lib.hid hm
  clear hV ho hp hb hm
  by_cases h1 : r1 = o'
  · rw [if_pos (show own (r1, r2, r3, r4, r5, r6, r7, r8) = o' from h1)]
    have e1 : (r1 == o') = true := beq_iff_eq.2 h1
    clear h1
    have HOA := Lib.hid (show OwnE _ w.heap.size _ _ from HO.out.bel ((Bel.refl V).alloc (.cells #[.int .i64 r1, .int .i64 r2, .int .i64 r3, .int .i64 r4, .int .i64 r5, .int .i64 r6, .int .u64 r7, .int .u64 r8] 27)))
    have HX := Lib.hid (Rw.rs_one eR (r := (r1, r2, r3, r4, r5, r6, r7, r8)) (Blk.new V #[.int .i64 r1, .int .i64 r2, .int .i64 r3, .int .i64 r4, .int .i64 r5, .int .i64 r6, .int .u64 r7, .int .u64 r8] 27))
    have HB := Lib.hid (HB0.out.alloc (.cells #[.int .i64 r1, .int .i64 r2, .int .i64 r3, .int .i64 r4, .int .i64 r5, .int .i64 r6, .int .u64 r7, .int .u64 r8] 27))
    have HSZ := Lib.hid (Below.size HB0.out)
    go_enter Try.func57, Try.ntmps57
    go_upto_region 1 with fail
    try rw [HV.out]
    obtain ⟨g, hg⟩ : ∃ g, V0.heap.size = g := ⟨_, rfl⟩
    rw [hg] at B0 ⊢
    clear hg HV
    have c0 := B0.out.cell 0 rfl
    have c1 := B0.out.cell 1 rfl
    have c2 := B0.out.cell 2 rfl
    have c3 := B0.out.cell 3 rfl
    have c4 := B0.out.cell 4 rfl
    have c5 := B0.out.cell 5 rfl
    have c6 := B0.out.cell 6 rfl
    have c7 := B0.out.cell 7 rfl
    have hLV := load_e B0.out
    have p0 := P1.out.cell 0 rfl
    go_wp2_with (at_builtin; refine Rw.append_R eR rfl _ _ _ 27 rfl underE zero_E rfl (by decide) w.heap.size _ m rfl HOA.out (some ⟨V.heap.size, 0, none⟩) 1 1 [(r1, r2, r3, r4, r5, r6, r7, r8)] rfl HX.out (by have := HM.out; omega) (by have := HSZ.out; simp; omega) ?_; intro v' w1 hown' hgrow)
    have HO2 := Lib.hid hown'
    have HB2 := Lib.hid (show Bel w w1 from Kk.Bel.grown HB.out hgrow (fun k hk => (HOA.out.lt k hk).1))
    clear hown' hgrow HOA HB HX c0 c1 c2 c3 c4 c5 c6 c7 hLV p0
    go_wp2_with fail
    go_ret
    exact ⟨_, rfl, HO2.out, HB2.out⟩
  · rw [if_neg (show ¬ own (r1, r2, r3, r4, r5, r6, r7, r8) = o' from h1), List.append_nil]
    have e1 : (r1 == o') = false := beq_eq_false_iff_ne.2 h1
    clear h1
    go_enter Try.func57, Try.ntmps57
    go_upto_region 1 with fail
    try rw [HV.out]
    obtain ⟨g, hg⟩ : ∃ g, V0.heap.size = g := ⟨_, rfl⟩
    rw [hg] at B0 ⊢
    clear hg HV
    have c0 := B0.out.cell 0 rfl
    have p0 := P1.out.cell 0 rfl
    go_wp2_with fail
    go_ret
    exact ⟨_, rfl, HO.out, HB0.out⟩
set_option maxRecDepth 100000 in
set_option maxHeartbeats 4000000 in
theorem fold_e (A : Option Addr) (n c : Nat) (l : List E8) (o' : Int) (p : Nat) (w : World) (hi : Rw.RS eR w A n c l) (hn : n ≤ 1000000000) (hp : Blk w p #[.int .i64 o'] 3) :
    Calls Try.prog 56 #[.slice A n c, .slice none 0 0, .func (.func 57) #[] #[.pointer (some ⟨p, 0, none⟩)]] w fun e w' => ∃ v, e = .returned v ∧ OwnE w' w.heap.size v (ofL l o') ∧ Bel w w' := by
  have HR := Lib.hid hi
  have HFIN := Lib.hid (show l.take n = l by rw [← hi.len]; exact List.take_length)
  have P1 := Lib.hid hp
  clear hi hp
  go_enter Try.func56, Try.ntmps56
  go_wp2_with fail
  go_loopw [1, 11] (fun s1 s11 wr => ∃ k : Nat, k ≤ n ∧ s11 = .int .i64 k ∧ Hid (OwnE wr w.heap.size s1 (ofL (l.take k) o')) ∧ Hid (Bel w wr)) (fun _ s11 _ => n - (intOf s11).toNat)
  case atStart => exact ⟨0, Nat.zero_le _, rfl, Lib.hid (Rw.OwnR.nil_ _ _ _ _), Lib.hid (Bel.refl _)⟩
  case round =>
    obtain ⟨k, hk, rfl, ho, hh⟩ := hrel
    by_cases hlt : k < n
    · obtain ⟨⟨r1, r2, r3, r4, r5, r6, r7, r8⟩, hr⟩ := HR.out.get hlt
      obtain ⟨b, q, rfl, hb, hrow⟩ := (HR.out.bel hh.out).at hlt hr
      have HNX := Lib.hid (of_take hr o')
      have HLE := Lib.hid (show (ofL (l.take k) o').length ≤ k by have := List.length_filter_le (fun r => decide (own r = o')) (l.take k); rw [List.length_take] at this; show (List.filter _ _).length ≤ k; omega)
      have hlt3 : (k : Int) < n := by omega
      have hlt0 : (0 : Int) ≤ k := by omega
      obtain ⟨c0, c1, c2, c3, c4, c5, c6, c7⟩ := rng8 (show wr.rangeAt b (q + k * 8) [.int .i64 r1, .int .i64 r2, .int .i64 r3, .int .i64 r4, .int .i64 r5, .int .i64 r6, .int .u64 r7, .int .u64 r8] from hrow)
      clear hr hrow hb
      obtain ⟨m, hm⟩ : ∃ m, ofL (l.take k) o' = m := ⟨_, rfl⟩
      rw [hm] at HNX HLE ho
      clear hm
      go_upto_region 4 with fail
      have P0 := Lib.hid (Blk.new wr #[.int .i64 r1, .int .i64 r2, .int .i64 r3, .int .i64 r4, .int .i64 r5, .int .i64 r6, .int .u64 r7, .int .u64 r8] 27)
      obtain ⟨V, hV⟩ : ∃ V, wr.alloc (.cells #[.int .i64 r1, .int .i64 r2, .int .i64 r3, .int .i64 r4, .int .i64 r5, .int .i64 r6, .int .u64 r7, .int .u64 r8] 27) = V := ⟨_, rfl⟩
      have BV0 := Lib.hid (show Bel wr V by rw [← hV]; exact (Bel.refl _).alloc _)
      have BV := Lib.hid (hh.out.trans BV0.out)
      have HOV := Lib.hid (show OwnE V w.heap.size _ m from ho.out.bel BV0.out)
      rw [hV] at P0 ⊢
      obtain ⟨g, hg⟩ : ∃ g, wr.heap.size = g := ⟨_, rfl⟩
      rw [hg] at P0 ⊢
      clear hV hg c0 c1 c2 c3 c4 c5 c6 c7
      have c0 := P0.out.cell 0 rfl
      have c1 := P0.out.cell 1 rfl
      have c2 := P0.out.cell 2 rfl
      have c3 := P0.out.cell 3 rfl
      have c4 := P0.out.cell 4 rfl
      have c5 := P0.out.cell 5 rfl
      have c6 := P0.out.cell 6 rfl
      have c7 := P0.out.cell 7 rfl
      have hLV := load_e P0.out
      have LV := Lib.hid (of1 w V _ m o' r1 r2 r3 r4 r5 r6 r7 r8 p BV.out HOV.out P1.out (by have := HLE.out; omega))
      rw [← HNX.out] at LV
      go_wp2_with fail
      refine LV.out.mono ?_
      rintro e V1 ⟨v', rfl, ho', k1⟩
      have HO1 := Lib.hid ho'
      have BV1 := Lib.hid k1
      clear k1 ho' LV P0 hLV BV c0 c1 c2 c3 c4 c5 c6 c7
      go_wp2_with fail
      go_roundw
      case rel => exact ⟨k + 1, by omega, by go_num, HO1, BV1⟩
      case measure => simp [intOf]; omega
    · obtain rfl : k = n := by omega
      have hlt3 : ¬ (k : Int) < k := by omega
      rw [HFIN.out] at ho
      go_wp2_with fail
      go_ret
      exact ⟨_, rfl, ho.out, hh.out⟩
set_option maxHeartbeats 2000000 in
theorem ofX (A : Option Addr) (n c : Nat) (l : List E8) (o' : Int) (w : World) (hi : Rw.RS eR w A n c l) (hn : n ≤ 1000000000) :
    Calls Try.prog 24 #[.slice A n c, .int .i64 o'] w fun e w' => ∃ v, e = .returned v ∧ OwnE w' w.heap.size v (ofL l o') ∧ Bel w w' := by
  obtain ⟨W, hW⟩ : ∃ W, w.alloc (.cells #[.int .i64 o'] 3) = W := ⟨_, rfl⟩
  have BW := Lib.hid (show Bel w W by rw [← hW]; exact (Bel.refl w).alloc _)
  have P0 := Lib.hid (show Blk W (w.heap.size) #[.int .i64 o'] 3 by rw [← hW]; exact (Blk.new w _ _))
  have FI := Lib.hid (fold_e A n c l o' (w.heap.size) W (hi.bel BW.out) hn P0.out)
  have HW := Lib.hid hW
  clear hi hW
  go_enter Try.func24, Try.ntmps24
  go_upto_region 1 with fail
  try rw [HW.out]
  go_wp2_with fail
  refine FI.out.mono ?_
  rintro x w1 ⟨v, rfl, ho, kb⟩
  have HO := Lib.hid (ho.mono (Below.size BW.out))
  have KB := Lib.hid (BW.out.trans kb)
  clear kb ho FI
  go_wp2_with fail
  go_ret
  exact ⟨_, rfl, HO.out, KB.out⟩
end Qu
end Go.Proofs.Ytdpompponngmdaa
