/-
  What the program's Live and Total tell. Conditions: at most a billion entries; the Balances are words.
-/
import Derived.Test.YtdpompponngmdaaGQu5
namespace Go.Proofs.Ytdpompponngmdaa
open Go.RowKit Go.Shelf
set_option linter.unusedVariables false
set_option linter.unusedSimpArgs false
namespace Qu
open Kk Pm

theorem of_no1 {o' v' r1 r2 r3 r4 r5 r6 r7 r8 : Int} (h : r1 ≠ o') : isOf o' v' (r1, r2, r3, r4, r5, r6, r7, r8) = false := decide_eq_false fun h' => h h'.1
theorem of_no2 {o' v' r1 r2 r3 r4 r5 r6 r7 r8 : Int} (h : r2 ≠ v') : isOf o' v' (r1, r2, r3, r4, r5, r6, r7, r8) = false := decide_eq_false fun h' => h h'.2
theorem of_yes {o' v' r1 r2 r3 r4 r5 r6 r7 r8 : Int} (h : r1 = o') (h2 : r2 = v') : isOf o' v' (r1, r2, r3, r4, r5, r6, r7, r8) = true := decide_eq_true ⟨h, h2⟩
set_option maxHeartbeats 4000000 in
theorem live1 (a o' v' r1 r2 r3 r4 r5 r6 r7 r8 : Int) (p p2 : Nat) (V0 : World) (hp : Blk V0 p #[.int .i64 o'] 3) (hp2 : Blk V0 p2 #[.int .i64 v'] 3) (ha : 0 ≤ a ∧ a ≤ 1000000000) :
    Calls Try.prog 59 #[.int .i64 a, .agg #[.int .i64 r1, .int .i64 r2, .int .i64 r3, .int .i64 r4, .int .i64 r5, .int .i64 r6, .int .u64 r7, .int .u64 r8], .pointer (some ⟨p, 0, none⟩), .pointer (some ⟨p2, 0, none⟩)] V0 fun e w' => e = .returned (.int .i64 (if isOf o' v' (r1, r2, r3, r4, r5, r6, r7, r8) = true then a + 1 else a)) ∧ Bel V0 w' := by
  have B0 := Lib.hid (Blk.new V0 #[.int .i64 r1, .int .i64 r2, .int .i64 r3, .int .i64 r4, .int .i64 r5, .int .i64 r6, .int .u64 r7, .int .u64 r8] 27)
  obtain ⟨V, hV⟩ : ∃ V, V0.alloc (.cells #[.int .i64 r1, .int .i64 r2, .int .i64 r3, .int .i64 r4, .int .i64 r5, .int .i64 r6, .int .u64 r7, .int .u64 r8] 27) = V := ⟨_, rfl⟩
  have EV := Lib.hid (show Bel V0 V by rw [← hV]; exact (Bel.refl _).alloc _)
  rw [hV] at B0
  have HV := Lib.hid hV
  have P1 := Lib.hid (hp.bel EV.out)
  have P2 := Lib.hid (hp2.bel EV.out)
  clear hV hp hp2
  have hw : IntKind.i64.wrap (a + 1) = a + 1 := IntWalk.i64_in _ (by omega)
  clear ha
  by_cases h1 : r1 = o'
  · by_cases h2 : r2 = v'
    · rw [if_pos (of_yes h1 h2)]
      have e1 : (r1 == o') = true := beq_iff_eq.2 h1
      have e2 : (r2 == v') = true := beq_iff_eq.2 h2
      clear h1 h2
      go_enter Try.func59, Try.ntmps59
      go_upto_region 1 with fail
      try rw [HV.out]
      obtain ⟨g, hg⟩ : ∃ g, V0.heap.size = g := ⟨_, rfl⟩
      rw [hg] at B0 ⊢
      clear hg HV
      have c0 := B0.out.cell 0 rfl
      have c1 := B0.out.cell 1 rfl
      have p0 := P1.out.cell 0 rfl
      have q0 := P2.out.cell 0 rfl
      go_wp2_with fail
      go_ret
      exact ⟨rfl, EV.out⟩
    · rw [if_neg (by rw [of_no2 h2]; decide)]
      have e1 : (r1 == o') = true := beq_iff_eq.2 h1
      have e2 : (r2 == v') = false := beq_eq_false_iff_ne.2 h2
      clear h1 h2
      go_enter Try.func59, Try.ntmps59
      go_upto_region 1 with fail
      try rw [HV.out]
      obtain ⟨g, hg⟩ : ∃ g, V0.heap.size = g := ⟨_, rfl⟩
      rw [hg] at B0 ⊢
      clear hg HV
      have c0 := B0.out.cell 0 rfl
      have c1 := B0.out.cell 1 rfl
      have p0 := P1.out.cell 0 rfl
      have q0 := P2.out.cell 0 rfl
      go_wp2_with fail
      go_ret
      exact ⟨rfl, EV.out⟩
  · rw [if_neg (by rw [of_no1 h1]; decide)]
    have e1 : (r1 == o') = false := beq_eq_false_iff_ne.2 h1
    clear h1
    go_enter Try.func59, Try.ntmps59
    go_upto_region 1 with fail
    try rw [HV.out]
    obtain ⟨g, hg⟩ : ∃ g, V0.heap.size = g := ⟨_, rfl⟩
    rw [hg] at B0 ⊢
    clear hg HV
    have c0 := B0.out.cell 0 rfl
    have c1 := B0.out.cell 1 rfl
    have p0 := P1.out.cell 0 rfl
    have q0 := P2.out.cell 0 rfl
    go_wp2_with fail
    go_ret
    exact ⟨rfl, EV.out⟩
set_option maxRecDepth 100000 in
set_option maxHeartbeats 4000000 in
theorem fold_i (A : Option Addr) (n c : Nat) (l : List E8) (o' v' : Int) (p p2 : Nat) (w : World) (hi : Rw.RS eR w A n c l) (hn : n ≤ 1000000000) (hp : Blk w p #[.int .i64 o'] 3) (hp2 : Blk w p2 #[.int .i64 v'] 3) :
    Calls Try.prog 58 #[.slice A n c, .int .i64 0, .func (.func 59) #[] #[.pointer (some ⟨p, 0, none⟩), .pointer (some ⟨p2, 0, none⟩)]] w fun e w' => e = .returned (.int .i64 (live l o' v')) ∧ Bel w w' := by
  have HR := Lib.hid hi
  have HFIN := Lib.hid (show l.take n = l by rw [← hi.len]; exact List.take_length)
  have P1 := Lib.hid hp
  have P2 := Lib.hid hp2
  clear hi hp hp2
  go_enter Try.func58, Try.ntmps58
  go_wp2_with fail
  go_loopw [1, 11] (fun s1 s11 wr => ∃ k : Nat, k ≤ n ∧ s11 = .int .i64 k ∧ s1 = .int .i64 (live (l.take k) o' v') ∧ Hid (Bel w wr)) (fun _ s11 _ => n - (intOf s11).toNat)
  case atStart => exact ⟨0, Nat.zero_le _, rfl, rfl, Lib.hid (Bel.refl _)⟩
  case round =>
    obtain ⟨k, hk, rfl, rfl, hh⟩ := hrel
    by_cases hlt : k < n
    · obtain ⟨⟨r1, r2, r3, r4, r5, r6, r7, r8⟩, hr⟩ := HR.out.get hlt
      obtain ⟨b, q, rfl, hb, hrow⟩ := (HR.out.bel hh.out).at hlt hr
      have HNX := Lib.hid (live_take hr o' v')
      have HLE := Lib.hid (show live (l.take k) o' v' ≤ k by have := live_le (l.take k) o' v'; rw [List.length_take] at this; omega)
      have hlt3 : (k : Int) < n := by omega
      have hlt0 : (0 : Int) ≤ k := by omega
      obtain ⟨c0, c1, c2, c3, c4, c5, c6, c7⟩ := rng8 (show wr.rangeAt b (q + k * 8) [.int .i64 r1, .int .i64 r2, .int .i64 r3, .int .i64 r4, .int .i64 r5, .int .i64 r6, .int .u64 r7, .int .u64 r8] from hrow)
      clear hr hrow hb
      obtain ⟨t, ht⟩ : ∃ t, live (l.take k) o' v' = t := ⟨_, rfl⟩
      rw [ht] at HNX HLE ⊢
      clear ht
      go_upto_region 4 with fail
      have P0 := Lib.hid (Blk.new wr #[.int .i64 r1, .int .i64 r2, .int .i64 r3, .int .i64 r4, .int .i64 r5, .int .i64 r6, .int .u64 r7, .int .u64 r8] 27)
      obtain ⟨V, hV⟩ : ∃ V, wr.alloc (.cells #[.int .i64 r1, .int .i64 r2, .int .i64 r3, .int .i64 r4, .int .i64 r5, .int .i64 r6, .int .u64 r7, .int .u64 r8] 27) = V := ⟨_, rfl⟩
      have BV := Lib.hid (show Bel w V by rw [← hV]; exact hh.out.alloc _)
      rw [hV] at P0 ⊢
      obtain ⟨g, hg⟩ : ∃ g, wr.heap.size = g := ⟨_, rfl⟩
      rw [hg] at P0 ⊢
      clear hV hg c0 c1 c2 c3 c4 c5 c6 c7
      have c0 := P0.out.cell 0 rfl
      have c1 := P0.out.cell 1 rfl
      have c2 := P0.out.cell 2 rfl
      have c3 := P0.out.cell 3 rfl
      have c4 := P0.out.cell 4 rfl
      have c5 := P0.out.cell 5 rfl
      have c6 := P0.out.cell 6 rfl
      have c7 := P0.out.cell 7 rfl
      have hLV := load_e P0.out
      have LV := Lib.hid (live1 t o' v' r1 r2 r3 r4 r5 r6 r7 r8 p p2 V (P1.out.bel BV.out) (P2.out.bel BV.out) (by have := HLE.out; omega))
      obtain ⟨y, hy⟩ : ∃ y : Int, (if isOf o' v' (r1, r2, r3, r4, r5, r6, r7, r8) = true then (t : Int) + 1 else t) = y := ⟨_, rfl⟩
      rw [hy] at LV
      have HY := Lib.hid (show y = (live (l.take (k + 1)) o' v' : Nat) by rw [HNX.out, ← hy]; split <;> omega)
      clear hy
      go_wp2_with fail
      refine LV.out.mono ?_
      rintro e V1 ⟨rfl, k1⟩
      have BV1 := Lib.hid (BV.out.trans k1)
      clear k1 LV P0 hLV BV c0 c1 c2 c3 c4 c5 c6 c7
      go_wp2_with fail
      go_roundw
      case rel => exact ⟨k + 1, by omega, by go_num, by rw [HY.out], BV1⟩
      case measure => simp [intOf]; omega
    · obtain rfl : k = n := by omega
      have hlt3 : ¬ (k : Int) < k := by omega
      rw [HFIN.out]
      go_wp2_with fail
      go_ret
      exact ⟨rfl, hh.out⟩
set_option maxHeartbeats 2000000 in
theorem liveX (A : Option Addr) (n c : Nat) (l : List E8) (o' v' : Int) (w : World) (hi : Rw.RS eR w A n c l) (hn : n ≤ 1000000000) :
    Calls Try.prog 27 #[.slice A n c, .int .i64 o', .int .i64 v'] w fun e w' => e = .returned (.int .i64 (live l o' v')) ∧ Bel w w' := by
  obtain ⟨W, hW⟩ : ∃ W, (w.alloc (.cells #[.int .i64 o'] 3)).alloc (.cells #[.int .i64 v'] 3) = W := ⟨_, rfl⟩
  have BW := Lib.hid (show Bel w W by rw [← hW]; exact ((Bel.refl w).alloc _).alloc _)
  have P0 := Lib.hid (show Blk W (w.heap.size) #[.int .i64 o'] 3 by rw [← hW]; exact ((Blk.new w _ _).alloc _))
  have P1 := Lib.hid (show Blk W (w.heap.size + 1) #[.int .i64 v'] 3 by
    rw [← hW]
    have := Blk.new (w.alloc (.cells #[.int .i64 o'] 3)) #[.int .i64 v'] 3
    rw [World.size_alloc] at this
    exact this)
  have FI := Lib.hid (fold_i A n c l o' v' (w.heap.size) (w.heap.size + 1) W (hi.bel BW.out) hn P0.out P1.out)
  have HW := Lib.hid hW
  clear hi hW
  go_enter Try.func27, Try.ntmps27
  go_upto_region 1 with fail
  try rw [HW.out]
  go_wp2_with fail
  refine FI.out.mono ?_
  rintro x w1 ⟨rfl, kb⟩
  have KB := Lib.hid (BW.out.trans kb)
  clear kb FI
  go_wp2_with fail
  go_ret
  exact ⟨rfl, KB.out⟩
set_option maxHeartbeats 2000000 in
theorem total (A : Option Addr) (n c : Nat) (l : List E8) (w : World) (hi : Rw.RS eR w A n c l) (hn : n ≤ 1000000000) (hw : Wd l) :
    Calls Try.prog 22 #[.slice A n c] w fun e w' => e = .returned (.tuple #[.int .u64 (totN l), .int .i64 (chk l).1]) ∧ Bel w w' := by
  have CK := Lib.hid (check A n c l w hi hn hw)
  have HR := Lib.hid hi
  have HW := Lib.hid hw
  have HT := Lib.hid (show (chk l).1 = 0 → totN l = tot l from fun h => if_pos h)
  have HT2 := Lib.hid (show (chk l).1 ≠ 0 → totN l = 0 from fun h => if_neg h)
  have HCP := Lib.hid (show (chk l).1 = 0 → cap (tot l) = tot l from fun h => cap_le (by have := (chk_ok.1 h).2.2; omega))
  obtain ⟨E, hE⟩ : ∃ E, (chk l).1 = E := ⟨_, rfl⟩
  rw [hE] at CK HT HT2 HCP ⊢
  clear hi hw hE
  by_cases h0 : E = 0
  · have h0b : (E != 0) = false := by rw [h0]; rfl
    rw [HT.out h0]
    have HC0 := Lib.hid (HCP.out h0)
    have HE0 := Lib.hid h0
    clear h0 HT HT2 HCP
    go_enter Try.func22, Try.ntmps22
    go_wp2_with fail
    refine CK.out.mono ?_
    rintro x w1 ⟨rfl, kb⟩
    have BA := Lib.hid (balances A n c l w1 (HR.out.bel kb) hn HW.out)
    rw [HC0.out] at BA
    have KB := Lib.hid kb
    clear kb CK
    go_wp2_with fail
    refine BA.out.mono ?_
    rintro x w2 ⟨rfl, kb⟩
    have KX := Lib.hid (KB.out.trans kb)
    clear kb BA
    go_wp2_with fail
    (try rw [Exit.noGoto_ret])
    go_ret2
    exact ⟨by rw [HE0.out]; rfl, KX.out⟩
  · have h0b : (E != 0) = true := by rw [bne_iff_ne]; exact h0
    rw [HT2.out h0]
    clear h0 HT HT2 HCP
    go_enter Try.func22, Try.ntmps22
    go_wp2_with fail
    refine CK.out.mono ?_
    rintro x w1 ⟨rfl, kb⟩
    have KB := Lib.hid kb
    clear kb CK
    go_wp2_with fail
    (try rw [Exit.noGoto_ret])
    go_ret2
    exact ⟨rfl, KB.out⟩
end Qu
end Go.Proofs.Ytdpompponngmdaa
