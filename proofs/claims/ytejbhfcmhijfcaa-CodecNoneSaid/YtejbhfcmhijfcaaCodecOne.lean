/-
  The walk of the law CodecOne: it returns true, and what was there is as it was.
  Conditions: a slice that reads as bytes, a slice that reads as integers.
-/
import Derived.Test.YtejbhfcmhijfcaaOneItems
import Derived.Test.YtejbhfcmhijfcaaCodecKnown
namespace Go.Proofs.Ytejbhfcmhijfcaa
open Go.RowKit Go.Shelf
set_option linter.unusedVariables false
namespace Cd

theorem wkeep {w w' : World} {b d : Nat} {L err : Int} {v : Value} {out : List Int} (h : WS w b L v err out b) (hk : Kep (fun i => i = d) w w') (hdb : d < b) : WS w' b L v err out b :=
  h.kep hk (Nat.ne_of_gt hdb) (fun q hq e => by have := (h.row.lt q hq).1; omega)
theorem rkeep {w w' : World} {b d : Nat} {L err : Int} {v : Value} {out : List Int} {A : Option Addr} {n c : Nat} {zs : List Int} {k : Nat} {F : Option Addr} (h : RSt w d A n c zs k F) (hw : WS w b L v err out b) (hk : Kep (Own2 b v) w w') (hdb : d < b) (hA : 0 < n → ∀ x : Addr, A = some x → x.block < b) : RSt w' d A n c zs k F :=
  h.kep0 hk (fun hS => by
    rcases hS with e | e
    · omega
    · have := (hw.row.lt _ e).1; omega) (fun hn x hx hS => by
    have := hA hn x hx
    rcases hS with e | e
    · omega
    · have := (hw.row.lt _ e).1; omega)
theorem fresh_take {w w' : World} {u : Value} {zs : List Int} {k : Nat} (h : Fresh w w' u (zs.take k)) (hk : k ≤ zs.length) : ∃ A c, u = .slice A k c ∧ Sl w' A k c (zs.take k) := by
  obtain ⟨A, c, h1, h2⟩ := h.sl
  have e : (zs.take k).length = k := by rw [List.length_take]; omega
  rw [e] at h1 h2
  exact ⟨A, c, h1, h2⟩
theorem rs_of {w : World} {d : Nat} {A : Option Addr} {n c : Nat} {zs : List Int} {k : Nat} (h : RSt w d A n c zs k none) : RS w d zs k none := ⟨A, n, c, none, h, .inl ⟨rfl, rfl⟩⟩
theorem own_lt {w : World} {A : Option Addr} {n c : Nat} {zs : List Int} (h : Sl w A n c zs) : 0 < n → ∀ x : Addr, A = some x → x.block < w.heap.size := fun hn x hx => by
  obtain ⟨b', o', h1, h2, _⟩ := h.ints.2 hn
  rw [h1] at hx
  cases hx
  exact h2

set_option maxRecDepth 100000 in
set_option maxHeartbeats 8000000 in
theorem oneLaw (A : Option Addr) (m c : Nat) (zs : List Int) (B : Option Addr) (p q : Nat) (ks : List Int) (w : World) (hi : Sl w A m c zs) (hz : ∀ z ∈ zs, 0 ≤ z ∧ z ≤ 255) (hm : m ≤ maxLen) (hj : Ints .i64 w B p ks) (hy : ∀ z ∈ ks, -9223372036854775808 ≤ z ∧ z ≤ 9223372036854775807) (hp : p ≤ maxLen) :
    Calls Try.prog 7 #[.slice A m c, .slice B p q] w fun e w' => e = .returned (.bool true) ∧ Bel w w' := by
  unfold maxLen at hm hp
  by_cases h400 : 400 < m
  · have h400' : (400 : Int) < (m : Int) := by omega
    clear hi hz hj hy
    go_enter Try.func7, Try.ntmps7
    go_wp2_with (go_at_call 6; refine (known _).mono ?_; rintro e w1 ⟨rfl, h1⟩)
    go_ret
    exact ⟨rfl, h1⟩
  have h400' : (m : Int) ≤ 400 := by omega
  by_cases h40 : 40 < p
  · have h40' : (40 : Int) < (p : Int) := by omega
    clear hi hz hj hy
    go_enter Try.func7, Try.ntmps7
    go_wp2_with (go_at_call 6; refine (known _).mono ?_; rintro e w1 ⟨rfl, h1⟩)
    go_ret
    exact ⟨rfl, h1⟩
  have h40' : (p : Int) ≤ 40 := by omega
  have f1 : decide (400 < m) = false := decide_eq_false h400
  have f2 : decide (40 < p) = false := decide_eq_false h40
  have hzl : zs.length = m := hi.len
  have HI := Lib.hid hi
  have HJ := Lib.hid hj
  have HY := Lib.hid hy
  have HB := Lib.hid (bytes_of hz)
  have hml : m ≤ 400 := by omega
  have hpl : p ≤ 40 := by omega
  clear hi hz hj hy hm hp h400 h40
  go_enter Try.func7, Try.ntmps7
  go_wp2_with fail
  refine (known _).mono ?_
  rintro e w1 ⟨rfl, b1⟩
  have b1 : Bel w w1 := b1
  go_wp2_with fail
  refine (newReader A m c zs _ (HI.out.bel b1) (by omega) HB.out).mono ?_
  rintro e w2 ⟨d, A', c', rfl, hd, hrs, _, h2⟩
  have hAlt := Lib.hid (own_lt hrs.sl)
  have hdlt : d < w2.heap.size := hrs.blk.lt
  have R2 := Lib.hid hrs
  have b2 : Bel w w2 := b1.trans h2
  have hwd : w.heap.size ≤ d := Nat.le_trans (Below.size b1) hd
  have hwb : w.heap.size ≤ w2.heap.size := Below.size b2
  clear hrs h2 hd b1
  go_wp2_with fail
  refine (newWriter 1048576 _ (by decide) (by decide)).mono ?_
  rintro e w3 ⟨rfl, hws, h3⟩
  generalize hbb : w2.heap.size = b at *
  have R3 := Lib.hid (R2.out.bel h3)
  have W3 := Lib.hid hws
  have b3 : Bel w w3 := b2.trans h3
  clear hws h3 b2 R2 hbb
  go_wp2_with fail
  go_loopw [9] (fun i wr => ∃ (j k : Nat) (v : Value), j ≤ p ∧ i = .int .i64 j ∧ Hid (RSt wr d A' m c' zs k none) ∧ Hid (WS wr b 1048576 v 0 (zs.take k) b) ∧ Bel w wr) (fun i _ => p - (intOf i).toNat)
  case atStart => exact ⟨0, 0, _, Nat.zero_le _, rfl, R3.out, W3.out, b3⟩
  case round =>
    obtain ⟨j, k, v, hjp, rfl, HR, HW, hb⟩ := hrel
    have hk : k ≤ zs.length := by have := HR.out.le; omega
    clear R3 W3 b3
    by_cases hlt : j < p
    · have g3 : (j : Int) < (p : Int) := by omega
      obtain ⟨b1', o1, rfl, hbw1, hc1⟩ := (HJ.out.bel hb).2 (by omega)
      have hx := hc1 j hlt
      have hzr := HY.out (ks.getD j 0) (by rw [getD_eq _ _ (by rw [HJ.out.1]; exact hlt)]; exact List.getElem_mem _)
      clear hc1
      generalize ks.getD j 0 = z at hx hzr
      go_wp2_with fail
      refine (rAt d zs k none _ (rs_of HR.out)).mono ?_
      rintro e w' ⟨rfl, rfl⟩
      rw [show atOf k none = (k : Int) from rfl]
      go_wp2_with fail
      refine (pick3 z _ hzr.1 hzr.2).mono ?_
      rintro e w' ⟨r, rfl, hr, rfl⟩
      clear hx hzr
      rcases hr with rfl | rfl | rfl
      · obtain ⟨x, k', f', hru, x0, x1, ho⟩ := ru_of zs HB.out k hk
        go_wp2_with fail
        refine (rUx d A' m c' zs k x k' f' _ HR.out hru).mono ?_
        rintro e w4 ⟨rfl, hr4, hk4⟩
        have HX := Lib.hid hr4
        have W4 := Lib.hid (wkeep HW.out hk4 hdlt)
        have b4 : Bel w w4 := Kep.bel hb hk4 (fun i hi => by rw [hi]; exact hwd)
        rcases ho with ⟨rfl, hk', ht⟩ | ⟨e, he, rfl, rfl⟩
        · have R4 := Lib.hid HX.out.rst
          clear HX
          go_wp2_with fail
          refine (faulty_no d zs k' _ (rs_of (R4.out.bel (Bel.refl _)))).mono ?_
          rintro e w5 ⟨rfl, h5⟩
          have h5 : Bel w4 w5 := Bel.trans (Bel.refl _) h5
          have R5 := Lib.hid (R4.out.bel h5)
          have W5 := Lib.hid (W4.out.bel h5)
          have b5 : Bel w w5 := b4.trans h5
          skip
          clear R4 W4 b4 h5
          go_wp2_with fail
          refine (wU b 1048576 v _ _ x _ W5.out x0 x1).mono ?_
          rintro e w6 ⟨r, rfl, ha, hkw⟩
          obtain ⟨rfl, v', hws'⟩ := after_ok ha (by rw [ht]; have := List.length_take_le k' zs; omega)
          rw [ht] at hws'
          have R6 := Lib.hid (rkeep R5.out W5.out hkw hdlt hAlt.out)
          have b6 : Bel w w6 := step_bel b5 W5.out hwb hwb hkw
          have W6 := Lib.hid hws'
          clear ha hkw hws' b5 W5 R5
          go_wp2_with fail
          refine (faulty_no d zs k' _ (rs_of R6.out)).mono ?_
          rintro e w7 ⟨rfl, h7⟩
          have h7 : Bel w6 w7 := h7
          have R7 := Lib.hid (R6.out.bel h7)
          have W7 := Lib.hid (W6.out.bel h7)
          have b7 : Bel w w7 := b6.trans h7
          clear R6 W6 b6 h7
          go_wp2
          go_roundw
          case rel => exact ⟨j + 1, k', v', by omega, by go_num, R7.out, W7.out, b7⟩
          case measure => simp [intOf]; omega
        · have R4 := Lib.hid HX.out.rs
          clear HX
          go_wp2_with fail
          refine (faulty_yes d zs k' e _ _ (R4.out.bel (Bel.refl _)) he).mono ?_
          rintro e' w5 ⟨rfl, h5⟩
          have h5 : Bel w4 w5 := Bel.trans (Bel.refl _) h5
          have R5 := Lib.hid (R4.out.bel h5)
          have W5 := Lib.hid (W4.out.bel h5)
          have b5 : Bel w w5 := b4.trans h5
          clear R4 W4 b4 h5
          go_wp2_with fail
          refine (faulty_yes d zs k' e _ _ R5.out he).mono ?_
          rintro e' w6 ⟨rfl, h6⟩
          have h6 : Bel w5 w6 := h6
          have R6 := Lib.hid (R5.out.bel h6)
          have W6 := Lib.hid (W5.out.bel h6)
          have b6 : Bel w w6 := b5.trans h6
          clear R5 W5 b5 h6
          go_wp2_with fail
          refine (wdone b 1048576 v _ _ _ W6.out).mono ?_
          rintro e' w7 ⟨u, rfl, hu⟩
          obtain ⟨Au, cu, hue, hsu⟩ := fresh_take hu (k := k') hk
          subst hue
          have b67 : Bel w6 w7 := hu.2
          have R7 := Lib.hid (R6.out.bel b67)
          have b7 : Bel w w7 := b6.trans b67
          have HU := Lib.hid hsu
          obtain ⟨A2, hsl, hi2⟩ := start_ A m c k' zs w7 (HI.out.bel b7).ints (by omega) HI.out.cap
          have H2 := Lib.hid hi2
          have hkm : (k' : Int) ≤ (m : Int) := by omega
          clear R6 W6 b6 hu hsu b67 hi2
          go_wp2_with fail
          refine (rAt d zs k' _ _ R7.out).mono ?_
          rintro e' w8 ⟨rfl, rfl⟩
          rw [show atOf k' (some (e, (k' : Int))) = (k' : Int) from rfl]
          go_wp2_with fail
          refine (same Au A2 _ cu _ c (zs.take k') _ HU.out.ints H2.out).mono ?_
          rintro e' w9 ⟨rfl, rfl⟩
          go_wp2_with fail
          refine (rLeft d zs k' _ _ R7.out).mono ?_
          rintro e' w10 ⟨rfl, h10⟩
          rw [show leftOf zs.length k' (some (e, (k' : Int))) = 0 from rfl]
          have b10 : Bel w w10 := b7.trans h10
          clear h10 b7 R7 HU H2
          go_wp2
          go_ret
          exact ⟨rfl, b10⟩
      · obtain ⟨hs, k', f', hru, hl, ho⟩ := rh_of zs k hk
        obtain ⟨Y, hY⟩ : ∃ Y, hs.map (Value.int .u8) = Y := ⟨_, rfl⟩
        have eY : hash hs = .agg Y.toArray := by rw [← hY]
        have EY := Lib.hid eY
        have YL : Y.length = 32 := by rw [← hY]; simpa using hl
        have hz : Y.toArray.size = 32 := by simp [YL]
        have HO := Lib.hid (all_oneCell_toArray (show ∀ v ∈ Y, v.oneCell' = true by rw [← hY]; exact ints_ok _))
        have HYI := Lib.hid (show (Try.prog.info? 44).map (·.size) = some Y.length by rw [YL]; exact info_hash)
        have HYI2 := Lib.hid (show (Try.prog.info? 44).map (·.size) = some Y.toArray.size by rw [hz]; exact info_hash)
        have HYL := Lib.hid YL
        clear hY YL
        go_wp2_with fail
        refine (rHx d A' m c' zs k hs k' f' _ HR.out hru).mono ?_
        rintro e w4 ⟨rfl, hr4, hk4⟩
        rw [eY]
        have TH := Lib.hid (show (w4.alloc ZO).there w4.heap.size 0 Y.toArray.size by rw [hz]; exact there_z w4 rfl)
        have RG := Lib.hid (show ((w4.alloc ZO).setCells w4.heap.size 0 Y).rangeAt w4.heap.size 0 Y from r_self (there_z w4 rfl) HYL.out)
        have B5 := Lib.hid (show Bel w4 ((w4.alloc ZO).setCells w4.heap.size 0 Y) from bel_setCells ((Bel.refl _).alloc _) (Nat.le_refl _) Y)
        clear eY hz
        have HX := Lib.hid hr4
        have W4 := Lib.hid (wkeep HW.out hk4 hdlt)
        have b4 : Bel w w4 := Kep.bel hb hk4 (fun i hi => by rw [hi]; exact hwd)
        rcases ho with ⟨rfl, hk', ht⟩ | ⟨e, he, rfl, rfl⟩
        · have R4 := Lib.hid HX.out.rst
          clear HX
          go_wp2_with (refine wpList_store_mid rfl 44 (.tmp 12) (.tmp 70) rfl w4.heap.size 0 Y.toArray rfl rfl TH.out HYI2.out HO.out ?_)
          refine (faulty_no d zs k' _ (rs_of (R4.out.bel B5.out))).mono ?_
          rintro e w5 ⟨rfl, hx5⟩
          have hx5 : Bel ((w4.alloc ZO).setCells w4.heap.size 0 Y) w5 := hx5
          have h5 : Bel w4 w5 := Bel.trans B5.out hx5
          have R5 := Lib.hid (R4.out.bel h5)
          have W5 := Lib.hid (W4.out.bel h5)
          have b5 : Bel w w5 := b4.trans h5
          have RG5 := Lib.hid (range_kep (S := fun _ => False) RG.out (Kep.of_bel hx5) id)
          clear R4 W4 b4 h5
          go_wp2_with (refine wpList_load_mid rfl 44 (.tmp 12) rfl w4.heap.size 0 rfl Y _ RG5.out Try.underlying44 rfl HYI.out ?_)
          refine ((by rw [← EY.out]; exact wHash b 1048576 v _ _ hs _ W5.out hl) : Calls Try.prog 31 #[.pointer (some ⟨b, 0, none⟩), .agg Y.toArray] w5 fun e w' => ∃ r, e = .returned (.int .i64 r) ∧ After w' b 1048576 r (zs.take k) hs b ∧ Kep (Own2 b v) w5 w').mono ?_
          rintro e w6 ⟨r, rfl, ha, hkw⟩
          obtain ⟨rfl, v', hws'⟩ := after_ok ha (by rw [ht]; have := List.length_take_le k' zs; omega)
          rw [ht] at hws'
          have R6 := Lib.hid (rkeep R5.out W5.out hkw hdlt hAlt.out)
          have b6 : Bel w w6 := step_bel b5 W5.out hwb hwb hkw
          have W6 := Lib.hid hws'
          clear ha hkw hws' b5 W5 R5 TH RG B5 RG5
          go_wp2_with fail
          refine (faulty_no d zs k' _ (rs_of R6.out)).mono ?_
          rintro e w7 ⟨rfl, h7⟩
          have h7 : Bel w6 w7 := h7
          have R7 := Lib.hid (R6.out.bel h7)
          have W7 := Lib.hid (W6.out.bel h7)
          have b7 : Bel w w7 := b6.trans h7
          clear R6 W6 b6 h7
          go_wp2
          go_roundw
          case rel => exact ⟨j + 1, k', v', by omega, by go_num, R7.out, W7.out, b7⟩
          case measure => simp [intOf]; omega
        · have R4 := Lib.hid HX.out.rs
          clear HX
          go_wp2_with (refine wpList_store_mid rfl 44 (.tmp 12) (.tmp 70) rfl w4.heap.size 0 Y.toArray rfl rfl TH.out HYI2.out HO.out ?_)
          refine (faulty_yes d zs k' e _ _ (R4.out.bel B5.out) he).mono ?_
          rintro e' w5 ⟨rfl, h5⟩
          have h5 : Bel w4 w5 := Bel.trans B5.out h5
          have R5 := Lib.hid (R4.out.bel h5)
          have W5 := Lib.hid (W4.out.bel h5)
          have b5 : Bel w w5 := b4.trans h5
          clear R4 W4 b4 h5
          go_wp2_with fail
          refine (faulty_yes d zs k' e _ _ R5.out he).mono ?_
          rintro e' w6 ⟨rfl, h6⟩
          have h6 : Bel w5 w6 := h6
          have R6 := Lib.hid (R5.out.bel h6)
          have W6 := Lib.hid (W5.out.bel h6)
          have b6 : Bel w w6 := b5.trans h6
          clear R5 W5 b5 h6
          go_wp2_with fail
          refine (wdone b 1048576 v _ _ _ W6.out).mono ?_
          rintro e' w7 ⟨u, rfl, hu⟩
          obtain ⟨Au, cu, hue, hsu⟩ := fresh_take hu (k := k') hk
          subst hue
          have b67 : Bel w6 w7 := hu.2
          have R7 := Lib.hid (R6.out.bel b67)
          have b7 : Bel w w7 := b6.trans b67
          have HU := Lib.hid hsu
          obtain ⟨A2, hsl, hi2⟩ := start_ A m c k' zs w7 (HI.out.bel b7).ints (by omega) HI.out.cap
          have H2 := Lib.hid hi2
          have hkm : (k' : Int) ≤ (m : Int) := by omega
          clear R6 W6 b6 hu hsu b67 hi2
          go_wp2_with fail
          refine (rAt d zs k' _ _ R7.out).mono ?_
          rintro e' w8 ⟨rfl, rfl⟩
          rw [show atOf k' (some (e, (k' : Int))) = (k' : Int) from rfl]
          go_wp2_with fail
          refine (same Au A2 _ cu _ c (zs.take k') _ HU.out.ints H2.out).mono ?_
          rintro e' w9 ⟨rfl, rfl⟩
          go_wp2_with fail
          refine (rLeft d zs k' _ _ R7.out).mono ?_
          rintro e' w10 ⟨rfl, h10⟩
          rw [show leftOf zs.length k' (some (e, (k' : Int))) = 0 from rfl]
          have b10 : Bel w w10 := b7.trans h10
          clear h10 b7 R7 HU H2
          go_wp2
          go_ret
          exact ⟨rfl, b10⟩
      · obtain ⟨ys, k', f', hru, hyl, ho⟩ := rb_of zs HB.out k hk
        go_wp2_with fail
        refine (rBx d A' m c' zs k 400 ys k' f' _ HR.out hru (by decide)).mono ?_
        rintro e w4 ⟨u, rfl, hou, hr4, hk4⟩
        obtain ⟨A2, c2, hue, hs2⟩ := sl_of_own hou
        subst hue
        have HS2 := Lib.hid hs2
        have hwlt := HW.out.blk.lt
        have hrl := HW.out.row_lt
        have HN := Lib.hid (show ∀ x : Addr, A2 = some x → x.block ≠ b ∧ v.ownBlock ≠ some x.block from fun x hx => by
          have h1 := own_block_ge hou x hx
          exact ⟨by omega, fun e => by have := hrl _ e; omega⟩)
        clear hs2 hwlt hrl hou
        have HX := Lib.hid hr4
        have W4 := Lib.hid (wkeep HW.out hk4 hdlt)
        have b4 : Bel w w4 := Kep.bel hb hk4 (fun i hi => by rw [hi]; exact hwd)
        rcases ho with ⟨rfl, hk', ht⟩ | ⟨e, he, rfl, rfl⟩
        · have R4 := Lib.hid HX.out.rst
          clear HX
          go_wp2_with fail
          refine (faulty_no d zs k' _ (rs_of (R4.out.bel (Bel.refl _)))).mono ?_
          rintro e w5 ⟨rfl, h5⟩
          have h5 : Bel w4 w5 := Bel.trans (Bel.refl _) h5
          have R5 := Lib.hid (R4.out.bel h5)
          have W5 := Lib.hid (W4.out.bel h5)
          have b5 : Bel w w5 := b4.trans h5
          have HS5 := Lib.hid (HS2.out.bel h5)
          clear R4 W4 b4 h5
          go_wp2_with fail
          refine (wBlob b 1048576 v _ _ A2 ys.length c2 ys _ W5.out HS5.out (by omega) HN.out).mono ?_
          rintro e w6 ⟨r, rfl, ha, hkw⟩
          obtain ⟨rfl, v', hws'⟩ := after_ok ha (by rw [ht]; have := List.length_take_le k' zs; omega)
          rw [ht] at hws'
          have R6 := Lib.hid (rkeep R5.out W5.out hkw hdlt hAlt.out)
          have b6 : Bel w w6 := step_bel b5 W5.out hwb hwb hkw
          have W6 := Lib.hid hws'
          clear ha hkw hws' b5 W5 R5 HS2 HN HS5
          go_wp2_with fail
          refine (faulty_no d zs k' _ (rs_of R6.out)).mono ?_
          rintro e w7 ⟨rfl, h7⟩
          have h7 : Bel w6 w7 := h7
          have R7 := Lib.hid (R6.out.bel h7)
          have W7 := Lib.hid (W6.out.bel h7)
          have b7 : Bel w w7 := b6.trans h7
          clear R6 W6 b6 h7
          go_wp2
          go_roundw
          case rel => exact ⟨j + 1, k', v', by omega, by go_num, R7.out, W7.out, b7⟩
          case measure => simp [intOf]; omega
        · have R4 := Lib.hid HX.out.rs
          clear HX
          go_wp2_with fail
          refine (faulty_yes d zs k' e _ _ (R4.out.bel (Bel.refl _)) he).mono ?_
          rintro e' w5 ⟨rfl, h5⟩
          have h5 : Bel w4 w5 := Bel.trans (Bel.refl _) h5
          have R5 := Lib.hid (R4.out.bel h5)
          have W5 := Lib.hid (W4.out.bel h5)
          have b5 : Bel w w5 := b4.trans h5
          clear R4 W4 b4 h5
          go_wp2_with fail
          refine (faulty_yes d zs k' e _ _ R5.out he).mono ?_
          rintro e' w6 ⟨rfl, h6⟩
          have h6 : Bel w5 w6 := h6
          have R6 := Lib.hid (R5.out.bel h6)
          have W6 := Lib.hid (W5.out.bel h6)
          have b6 : Bel w w6 := b5.trans h6
          clear R5 W5 b5 h6
          go_wp2_with fail
          refine (wdone b 1048576 v _ _ _ W6.out).mono ?_
          rintro e' w7 ⟨u, rfl, hu⟩
          obtain ⟨Au, cu, hue, hsu⟩ := fresh_take hu (k := k') hk
          subst hue
          have b67 : Bel w6 w7 := hu.2
          have R7 := Lib.hid (R6.out.bel b67)
          have b7 : Bel w w7 := b6.trans b67
          have HU := Lib.hid hsu
          obtain ⟨A2, hsl, hi2⟩ := start_ A m c k' zs w7 (HI.out.bel b7).ints (by omega) HI.out.cap
          have H2 := Lib.hid hi2
          have hkm : (k' : Int) ≤ (m : Int) := by omega
          clear R6 W6 b6 hu hsu b67 hi2
          go_wp2_with fail
          refine (rAt d zs k' _ _ R7.out).mono ?_
          rintro e' w8 ⟨rfl, rfl⟩
          rw [show atOf k' (some (e, (k' : Int))) = (k' : Int) from rfl]
          go_wp2_with fail
          refine (same Au A2 _ cu _ c (zs.take k') _ HU.out.ints H2.out).mono ?_
          rintro e' w9 ⟨rfl, rfl⟩
          go_wp2_with fail
          refine (rLeft d zs k' _ _ R7.out).mono ?_
          rintro e' w10 ⟨rfl, h10⟩
          rw [show leftOf zs.length k' (some (e, (k' : Int))) = 0 from rfl]
          have b10 : Bel w w10 := b7.trans h10
          clear h10 b7 R7 HU H2
          go_wp2
          go_ret
          exact ⟨rfl, b10⟩
    · obtain rfl : j = p := by omega
      go_wp2_with fail
      refine (wdone b 1048576 v _ _ _ HW.out).mono ?_
      rintro e' w7 ⟨u, rfl, hu⟩
      obtain ⟨Au, cu, hue, hsu⟩ := fresh_take hu (k := k) hk
      subst hue
      have b67 : Bel wr w7 := hu.2
      have R7 := Lib.hid (rs_of (HR.out.bel b67))
      have b7 : Bel w w7 := hb.trans b67
      have HU := Lib.hid hsu
      obtain ⟨A2, hsl, hi2⟩ := start_ A m c k zs w7 (HI.out.bel b7).ints (by omega) HI.out.cap
      have H2 := Lib.hid hi2
      have hkm : (k : Int) ≤ (m : Int) := by omega
      have e1 : IntKind.i64.wrap ((m : Int) - (k : Int)) = (m : Int) - (k : Int) := IntWalk.i64_in _ (by omega)
      clear hu hsu b67 hi2 HW HR hb
      go_wp2_with fail
      refine (rAt d zs k _ _ R7.out).mono ?_
      rintro e' w8 ⟨rfl, rfl⟩
      rw [show atOf k none = (k : Int) from rfl]
      go_wp2_with fail
      refine (rAt d zs k _ _ R7.out).mono ?_
      rintro e' w8 ⟨rfl, rfl⟩
      rw [show atOf k none = (k : Int) from rfl]
      go_wp2_with fail
      refine (same Au A2 _ cu _ c (zs.take k) _ HU.out.ints H2.out).mono ?_
      rintro e' w9 ⟨rfl, rfl⟩
      go_wp2_with fail
      refine (rLeft d zs k _ _ R7.out).mono ?_
      rintro e' w10 ⟨rfl, h10⟩
      rw [show leftOf zs.length k none = (m : Int) - (k : Int) by rw [← hzl]; rfl]
      have h10 : Bel w7 w10 := h10
      have R10 := Lib.hid (R7.out.bel h10)
      have b10 : Bel w w10 := b7.trans h10
      clear h10 b7 R7 HU H2
      go_wp2_with fail
      refine (rAt d zs k _ _ R10.out).mono ?_
      rintro e' w11 ⟨rfl, rfl⟩
      rw [show atOf k none = (k : Int) from rfl]
      go_wp2
      go_ret
      exact ⟨rfl, b10⟩
end Cd
end Go.Proofs.Ytejbhfcmhijfcaa
