/-
  What the program's withBalance, balances, isAccount, isHeight and isValidator answer. Conditions: words; at most a billion entries.
-/
import Derived.Test.YtcefjigbaglmeaaGreatGQu3
import Derived.Test.YtcefjigbaglmeaaGreatGFixApi
namespace Go.Proofs.YtcefjigbaglmeaaGreat
open Go.RowKit Go.Shelf
set_option linter.unusedVariables false
set_option linter.unusedSimpArgs false
namespace Qu
open Kk Pm

theorem load_e {w : World} {b : Nat} {o v si p f c i n : Int} (h : Blk w b #[.int .i64 o, .int .i64 v, .int .i64 si, .int .i64 p, .int .i64 f, .int .i64 c, .int .u64 i, .int .u64 n] 53) : (loadVar 53 ⟨b, 0, none⟩).run Tryz.prog w = .ok (.agg #[.int .i64 o, .int .i64 v, .int .i64 si, .int .i64 p, .int .i64 f, .int .i64 c, .int .u64 i, .int .u64 n]) w :=
  load_b (C := [.int .i64 o, .int .i64 v, .int .i64 si, .int .i64 p, .int .i64 f, .int .i64 c, .int .u64 i, .int .u64 n]) h Tryz.underlying53 rfl info_E
theorem rng8 {w : World} {b o : Nat} {a1 a2 a3 a4 a5 a6 a7 a8 : Value} (h : w.rangeAt b o [a1, a2, a3, a4, a5, a6, a7, a8]) : w.cell? ⟨b, o, none⟩ = some a1 ∧ w.cell? ⟨b, o + 1, none⟩ = some a2 ∧ w.cell? ⟨b, o + 2, none⟩ = some a3 ∧ w.cell? ⟨b, o + 3, none⟩ = some a4 ∧ w.cell? ⟨b, o + 4, none⟩ = some a5 ∧ w.cell? ⟨b, o + 5, none⟩ = some a6 ∧ w.cell? ⟨b, o + 6, none⟩ = some a7 ∧ w.cell? ⟨b, o + 7, none⟩ = some a8 :=
  ⟨h 0 _ rfl, h 1 _ rfl, h 2 _ rfl, h 3 _ rfl, h 4 _ rfl, h 5 _ rfl, h 6 _ rfl, h 7 _ rfl⟩
theorem cap_le {s : Int} (h : s ≤ 18446744073709551615) : cap s = s := if_pos h
theorem cap_gt {s : Int} (h : ¬ s ≤ 18446744073709551615) : cap s = 18446744073709551615 := if_neg h
set_option maxHeartbeats 4000000 in
theorem withBalance (s o v si p f c i n : Int) (w : World) (hs : 0 ≤ s ∧ s ≤ 18446744073709551615) (hn : 0 ≤ n ∧ n ≤ 18446744073709551615) :
    Calls Tryz.prog 72 #[.int .u64 s, .agg #[.int .i64 o, .int .i64 v, .int .i64 si, .int .i64 p, .int .i64 f, .int .i64 c, .int .u64 i, .int .u64 n]] w fun e w' => e = .returned (.int .u64 (cap (s + n))) ∧ Bel w w' := by
  have AD := Lib.hid (fun V => Fix.add s n V hs.1 hs.2 hn.1 hn.2)
  have B0 := Lib.hid (Blk.new w #[.int .i64 o, .int .i64 v, .int .i64 si, .int .i64 p, .int .i64 f, .int .i64 c, .int .u64 i, .int .u64 n] 53)
  obtain ⟨V, hV⟩ : ∃ V, w.alloc (.cells #[.int .i64 o, .int .i64 v, .int .i64 si, .int .i64 p, .int .i64 f, .int .i64 c, .int .u64 i, .int .u64 n] 53) = V := ⟨_, rfl⟩
  have EV := Lib.hid (show Bel w V by rw [← hV]; exact (Bel.refl _).alloc _)
  rw [hV] at B0
  have HV := Lib.hid hV
  clear hV
  by_cases h : s + n ≤ 18446744073709551615
  · have HA := Lib.hid (Fix.amt_of h)
    have HCP := Lib.hid (cap_le h)
    clear hs hn h
    rw [HCP.out]
    have AD2 := Lib.hid (show ∀ V, Calls Tryz.prog 91 #[.int .u64 s, .int .u64 n] V fun e w' => e = .returned (.tuple #[.int .u64 (s + n), .int .i64 0]) ∧ Bel V w' from fun V => by
      have := AD.out V
      rw [HA.out.1, HA.out.2] at this
      exact this)
    clear AD HA HCP
    go_enter Tryz.func72, Tryz.ntmps72
    go_upto_region 1 with fail
    try rw [HV.out]
    obtain ⟨g, hg⟩ : ∃ g, w.heap.size = g := ⟨_, rfl⟩
    rw [hg] at B0 ⊢
    clear hg HV
    have c7 := B0.out.cell 7 rfl
    have AD3 := AD2.out V
    go_wp2_with fail
    refine AD3.mono ?_
    rintro e w1 ⟨rfl, kb⟩
    have KB := Lib.hid (EV.out.trans kb)
    clear kb AD3 AD2 c7 B0 EV
    go_wp2_with fail
    go_ret
    exact ⟨rfl, KB.out⟩
  · have HA := Lib.hid (Fix.amt_no (P := s + n) (by omega))
    have HCP := Lib.hid (cap_gt h)
    clear hs hn h
    rw [HCP.out]
    have AD2 := Lib.hid (show ∀ V, Calls Tryz.prog 91 #[.int .u64 s, .int .u64 n] V fun e w' => e = .returned (.tuple #[.int .u64 0, .int .i64 12]) ∧ Bel V w' from fun V => by
      have := AD.out V
      rw [HA.out.1, HA.out.2] at this
      exact this)
    clear AD HA HCP
    go_enter Tryz.func72, Tryz.ntmps72
    go_upto_region 1 with fail
    try rw [HV.out]
    obtain ⟨g, hg⟩ : ∃ g, w.heap.size = g := ⟨_, rfl⟩
    rw [hg] at B0 ⊢
    clear hg HV
    have c7 := B0.out.cell 7 rfl
    have AD3 := AD2.out V
    go_wp2_with fail
    refine AD3.mono ?_
    rintro e w1 ⟨rfl, kb⟩
    have KB := Lib.hid (EV.out.trans kb)
    clear kb AD3 AD2 c7 B0 EV
    go_wp2_with fail
    go_ret
    exact ⟨rfl, KB.out⟩
set_option maxRecDepth 100000 in
set_option maxHeartbeats 4000000 in
theorem fold_w (A : Option Addr) (n c : Nat) (l : List E8) (w : World) (hi : Rw.RS eR w A n c l) (hn : n ≤ 1000000000) (hw : Wd l) :
    Calls Tryz.prog 71 #[.slice A n c, .int .u64 0, .func (.func 72) #[] #[]] w fun e w' => e = .returned (.int .u64 (cap (tot l))) ∧ Bel w w' := by
  have HR := Lib.hid hi
  have HL := Lib.hid hi.len
  have HW := Lib.hid hw
  have HFIN := Lib.hid (show l.take n = l by rw [← hi.len]; exact List.take_length)
  clear hi hw
  go_enter Tryz.func71, Tryz.ntmps71
  go_wp2_with fail
  go_loopw [1, 11] (fun s1 s11 wr => ∃ k : Nat, k ≤ n ∧ s11 = .int .i64 k ∧ s1 = .int .u64 (cap (tot (l.take k))) ∧ Hid (Bel w wr)) (fun _ s11 _ => n - (intOf s11).toNat)
  case atStart => exact ⟨0, Nat.zero_le _, rfl, rfl, Lib.hid (Bel.refl _)⟩
  case round =>
    obtain ⟨k, hk, rfl, rfl, hh⟩ := hrel
    by_cases hlt : k < n
    · obtain ⟨⟨r1, r2, r3, r4, r5, r6, r7, r8⟩, hr⟩ := HR.out.get hlt
      obtain ⟨b, q, rfl, hb, hrow⟩ := (HR.out.bel hh.out).at hlt hr
      have HNX := Lib.hid (show tot (l.take (k + 1)) = tot (l.take k) + r8 from tot_take hr)
      have HWR := Lib.hid (show 0 ≤ r8 ∧ r8 ≤ 18446744073709551615 from HW.out.at hr)
      have HT0 := Lib.hid (show 0 ≤ tot (l.take k) from tot_pos fun x hx => HW.out x (List.mem_of_mem_take hx))
      have hlt3 : (k : Int) < n := by omega
      have hlt0 : (0 : Int) ≤ k := by omega
      obtain ⟨c0, c1, c2, c3, c4, c5, c6, c7⟩ := rng8 (show wr.rangeAt b (q + k * 8) [.int .i64 r1, .int .i64 r2, .int .i64 r3, .int .i64 r4, .int .i64 r5, .int .i64 r6, .int .u64 r7, .int .u64 r8] from hrow)
      clear hr hrow hb
      obtain ⟨t, ht⟩ : ∃ t, cap (tot (l.take k)) = t := ⟨_, rfl⟩
      have HTT := Lib.hid ht
      rw [ht]
      clear ht
      go_upto_region 4 with fail
      have P0 := Lib.hid (Blk.new wr #[.int .i64 r1, .int .i64 r2, .int .i64 r3, .int .i64 r4, .int .i64 r5, .int .i64 r6, .int .u64 r7, .int .u64 r8] 53)
      obtain ⟨V, hV⟩ : ∃ V, wr.alloc (.cells #[.int .i64 r1, .int .i64 r2, .int .i64 r3, .int .i64 r4, .int .i64 r5, .int .i64 r6, .int .u64 r7, .int .u64 r8] 53) = V := ⟨_, rfl⟩
      have BV := Lib.hid (show Bel w V by rw [← hV]; exact hh.out.alloc _)
      rw [hV] at P0 ⊢
      obtain ⟨p, hp⟩ : ∃ p, wr.heap.size = p := ⟨_, rfl⟩
      rw [hp] at P0 ⊢
      clear hV hp c0 c1 c2 c3 c4 c5 c6 c7
      have c0 := P0.out.cell 0 rfl
      have c1 := P0.out.cell 1 rfl
      have c2 := P0.out.cell 2 rfl
      have c3 := P0.out.cell 3 rfl
      have c4 := P0.out.cell 4 rfl
      have c5 := P0.out.cell 5 rfl
      have c6 := P0.out.cell 6 rfl
      have c7 := P0.out.cell 7 rfl
      have hLV := load_e P0.out
      have WB := Lib.hid (withBalance t r1 r2 r3 r4 r5 r6 r7 r8 V (by rw [← HTT.out]; exact cap_w HT0.out) HWR.out)
      go_wp2_with fail
      refine WB.out.mono ?_
      rintro e V1 ⟨rfl, k1⟩
      have BV1 := Lib.hid (BV.out.trans k1)
      have HST := Lib.hid (show cap (t + r8) = cap (tot (l.take (k + 1))) by rw [← HTT.out, cap_step HWR.out.1, HNX.out])
      clear k1 WB P0 hLV BV c0 c1 c2 c3 c4 c5 c6 c7
      go_wp2_with fail
      go_roundw
      case rel => exact ⟨k + 1, by omega, by go_num, by rw [HST.out], BV1⟩
      case measure => simp [intOf]; omega
    · obtain rfl : k = n := by omega
      have hlt3 : ¬ (k : Int) < k := by omega
      rw [HFIN.out]
      go_wp2_with fail
      go_ret
      exact ⟨rfl, hh.out⟩
set_option maxHeartbeats 1000000 in
theorem balances (A : Option Addr) (n c : Nat) (l : List E8) (w : World) (hi : Rw.RS eR w A n c l) (hn : n ≤ 1000000000) (hw : Wd l) :
    Calls Tryz.prog 34 #[.slice A n c] w fun e w' => e = .returned (.int .u64 (cap (tot l))) ∧ Bel w w' := by
  have FW := Lib.hid (fold_w A n c l w hi hn hw)
  clear hi hw
  go_enter Tryz.func34, Tryz.ntmps34
  go_wp2_with fail
  refine FW.out.mono ?_
  rintro e w1 ⟨rfl, kb⟩
  have KB := Lib.hid kb
  clear kb FW
  go_wp2_with fail
  go_ret
  exact ⟨rfl, KB.out⟩
set_option maxHeartbeats 1000000 in
theorem isAccount (x : Int) (w : World) : Calls Tryz.prog 81 #[.int .i64 x] w fun e w' => e = .returned (.bool (decide (0 ≤ x ∧ x < 64))) ∧ w = w' := by
  go_enter Tryz.func81, Tryz.ntmps81
  by_cases h : 0 ≤ x
  · by_cases h2 : x < 64
    · have hd : decide (0 ≤ x ∧ x < 64) = true := decide_eq_true ⟨h, h2⟩
      rw [hd]
      go_wp2
      go_ret
      exact ⟨rfl, rfl⟩
    · have hd : decide (0 ≤ x ∧ x < 64) = false := decide_eq_false (by omega)
      rw [hd]
      go_wp2
      go_ret
      exact ⟨rfl, rfl⟩
  · have hd : decide (0 ≤ x ∧ x < 64) = false := decide_eq_false (by omega)
    rw [hd]
    go_wp2
    go_ret
    exact ⟨rfl, rfl⟩
set_option maxHeartbeats 1000000 in
theorem isValidator (x : Int) (w : World) : Calls Tryz.prog 76 #[.int .i64 x] w fun e w' => e = .returned (.bool (decide (0 ≤ x ∧ x < 32))) ∧ w = w' := by
  go_enter Tryz.func76, Tryz.ntmps76
  by_cases h : 0 ≤ x
  · by_cases h2 : x < 32
    · have hd : decide (0 ≤ x ∧ x < 32) = true := decide_eq_true ⟨h, h2⟩
      rw [hd]
      go_wp2
      go_ret
      exact ⟨rfl, rfl⟩
    · have hd : decide (0 ≤ x ∧ x < 32) = false := decide_eq_false (by omega)
      rw [hd]
      go_wp2
      go_ret
      exact ⟨rfl, rfl⟩
  · have hd : decide (0 ≤ x ∧ x < 32) = false := decide_eq_false (by omega)
    rw [hd]
    go_wp2
    go_ret
    exact ⟨rfl, rfl⟩
set_option maxHeartbeats 1000000 in
theorem isHeight (x : Int) (w : World) : Calls Tryz.prog 77 #[.int .i64 x] w fun e w' => e = .returned (.bool (decide (1 ≤ x ∧ x ≤ 4294967296))) ∧ w = w' := by
  go_enter Tryz.func77, Tryz.ntmps77
  by_cases h : 1 ≤ x
  · by_cases h2 : x ≤ 4294967296
    · have hd : decide (1 ≤ x ∧ x ≤ 4294967296) = true := decide_eq_true ⟨h, h2⟩
      rw [hd]
      go_wp2
      go_ret
      exact ⟨rfl, rfl⟩
    · have hd : decide (1 ≤ x ∧ x ≤ 4294967296) = false := decide_eq_false (by omega)
      rw [hd]
      go_wp2
      go_ret
      exact ⟨rfl, rfl⟩
  · have hd : decide (1 ≤ x ∧ x ≤ 4294967296) = false := decide_eq_false (by omega)
    rw [hd]
    go_wp2
    go_ret
    exact ⟨rfl, rfl⟩
end Qu
end Go.Proofs.YtcefjigbaglmeaaGreat
