/-
  What the law HopFull answers: true, for every number and hop. Condition: the numbers are ints.
-/
import Derived.Test.YtahhnfnonekbmaaQF
import Derived.Test.YtahhnfnonekbmaaGHpIn
namespace Go.Proofs.Ytahhnfnonekbmaa
open Go.RowKit Go.Shelf
set_option linter.unusedVariables false
set_option linter.unusedSimpArgs false
namespace Hp
open Kk Pm

theorem own_lt_ {w : World} {base b : Nat} {v : Value} {l : List R4} (h : OwnH w base v l) (hb : v.ownBlock = some b) : b < w.heap.size := (Rw.own_blk h hb).elim fun _ hC => hC.lt
theorem own_addr_ {w : World} {base : Nat} {A : Option Addr} {n c : Nat} {l : List R4} (h : OwnH w base (.slice A n c) l) {x : Addr} (hx : A = some x) : (Value.slice A n c).ownBlock = some x.block := by subst hx; rfl
/-- One of the numbers from 0 on below n, by any number. -/
theorem pick (x n : Int) (w : World) (x0 : -9223372036854775808 ≤ x) (x1 : x ≤ 9223372036854775807) (n0 : 0 < n) (n1 : n ≤ 4611686018427387904) :
    Calls Try.prog 25 #[.int .i64 x, .int .i64 n] w fun e w' => e = .returned (.int .i64 (x % n)) ∧ w = w' := by
  have t0 := Int.emod_nonneg x (b := n) (by omega)
  have t1 := Int.emod_lt_of_pos x n0
  have hb : (x.tmod n = x % n ∨ (x.tmod n < 0 ∧ x.tmod n + n = x % n)) ∧ -n < x.tmod n ∧ x.tmod n < n := by
    rw [Int.tmod_eq_emod]
    split <;> rename_i h
    · exact ⟨.inl (by omega), by omega, by omega⟩
    · have hne : x % n ≠ 0 := fun e => h (.inr (Int.dvd_of_emod_eq_zero e))
      exact ⟨.inr ⟨by omega, by omega⟩, by omega, by omega⟩
  obtain ⟨ht, b0⟩ := hb
  obtain ⟨T, hT⟩ : ∃ T, x.tmod n = T := ⟨_, rfl⟩
  have hw : IntKind.i64.wrap T = T := IntWalk.i64_in _ (by omega)
  rw [hT] at ht b0
  obtain ⟨E, hE⟩ : ∃ E, x % n = E := ⟨_, rfl⟩
  rw [hE] at ht t0 t1 ⊢
  clear hE
  rcases ht with h | ⟨h1, h2⟩
  · subst h
    go_enter Try.func25, Try.ntmps25
    go_wp2
    go_ret
    exact ⟨rfl, rfl⟩
  · have H2 := Lib.hid h2
    clear h2
    go_enter Try.func25, Try.ntmps25
    go_wp2
    go_ret
    exact ⟨by rw [← H2.out]; rfl, rfl⟩
def fullR (i : Nat) : R4 := ((i : Int) % 64, (i : Int) / 64 % 2, 2 + (i : Int) / 128 % 30, 1 + (i : Int) / 500)
def fullL (n : Nat) : List R4 := (List.range n).map fullR
theorem full_len (n : Nat) : (fullL n).length = n := by simp [fullL]
theorem full_next (n : Nat) : fullL (n + 1) = fullL n ++ [fullR n] := by simp [fullL, List.range_succ]
theorem full_w3 (n : Nat) (hn : n ≤ 1000000) : ∀ r ∈ fullL n, W3 r := fun r hr => by
  obtain ⟨i, hi, rfl⟩ := List.mem_map.1 hr
  have := List.mem_range.1 hi
  unfold fullR W3 I64
  omega
set_option maxRecDepth 100000 in
set_option maxHeartbeats 8000000 in
theorem fullLaw (z x1 x2 x3 x4 m : Int) (w : World) (z0 : -9223372036854775808 ≤ z) (z1 : z ≤ 9223372036854775807) :
    Calls Try.prog 4 #[.int .i64 z, .agg #[.int .i64 x1, .int .i64 x2, .int .i64 x3, .int .i64 x4], .int .i64 m] w fun e w' => e = .returned (.bool true) ∧ Bel w w' := by
  have P0 := Lib.hid (Blk.new w #[.int .i64 x1, .int .i64 x2, .int .i64 x3, .int .i64 x4] 24)
  obtain ⟨W, hW⟩ : ∃ W, w.alloc (.cells #[.int .i64 x1, .int .i64 x2, .int .i64 x3, .int .i64 x4] 24) = W := ⟨_, rfl⟩
  have BW := Lib.hid (show Bel w W by rw [← hW]; exact (Bel.refl w).alloc _)
  rw [hW] at P0
  have PK := Lib.hid (pick z 9 W z0 z1 (by decide) (by decide))
  obtain ⟨N, hN, hN2⟩ : ∃ N : Nat, 4090 + z % 9 = (N : Int) ∧ N ≤ 5000 := ⟨(4090 + z % 9).toNat, by omega, by omega⟩
  have hwr : IntKind.i64.wrap (4090 + z % 9) = (N : Int) := by rw [IntWalk.i64_in _ (by omega)]; exact hN
  clear z0 z1 hN
  go_enter Try.func4, Try.ntmps4
  go_upto_region 1 with fail
  try rw [hW]
  obtain ⟨p, hp⟩ : ∃ p, w.heap.size = p := ⟨_, rfl⟩
  rw [hp] at P0 ⊢
  clear hW hp
  go_wp2_with fail
  refine PK.out.mono ?_
  rintro e w1 ⟨rfl, rfl⟩
  clear PK
  go_wp2_with fail
  go_loopw [7, 8] (fun s7 s8 wr => ∃ k : Nat, s8 = .int .i64 k ∧ k ≤ N ∧ Hid (OwnH wr W.heap.size s7 (fullL k)) ∧ Hid (Bel W wr)) (fun _ s8 _ => N - (intOf s8).toNat)
  case atStart => exact ⟨0, rfl, Nat.zero_le _, Lib.hid (Rw.OwnR.nil_ _ _ _ _), Lib.hid (Bel.refl _)⟩
  case round =>
    obtain ⟨k, rfl, hk, ho, hh⟩ := hrel
    by_cases hlt : k < N
    · have hlt3 : (k : Int) < N := by omega
      have HX := Lib.hid (Rw.rs_one hR (r := fullR k) (Blk.new wr #[.int .i64 ((k : Int) % 64), .int .i64 ((k : Int) / 64 % 2), .int .i64 (2 + (k : Int) / 128 % 30), .int .i64 (1 + (k : Int) / 500)] 24))
      have HOA := Lib.hid (ho.out.bel ((Bel.refl wr).alloc (.cells #[.int .i64 ((k : Int) % 64), .int .i64 ((k : Int) / 64 % 2), .int .i64 (2 + (k : Int) / 128 % 30), .int .i64 (1 + (k : Int) / 500)] 24)))
      have HSZ := Lib.hid (Below.size hh.out)
      have HFL := Lib.hid (full_len k)
      go_wp2_with (at_builtin; refine Rw.append_R hR rfl _ _ _ 24 rfl underH zero_h rfl (by decide) W.heap.size _ (fullL k) rfl HOA.out (some ⟨wr.heap.size, 0, none⟩) 1 1 [fullR k] rfl HX.out (by have := HFL.out; omega) (by have := HSZ.out; simp; omega) ?_; intro v' w1 hown' hgrow)
      have HO2 := Lib.hid hown'
      have HB2 := Lib.hid (show Bel W w1 from Kk.Bel.grown (hh.out.alloc _) hgrow (fun k hk => (HOA.out.lt k hk).1))
      clear hown' hgrow
      go_wp2_with fail
      go_roundw
      case rel => exact ⟨k + 1, by go_num, by omega, Lib.hid (by rw [full_next]; exact HO2.out), HB2⟩
      case measure => simp [intOf]; omega
    · obtain rfl : k = N := by omega
      obtain ⟨A, c, hv, hrs⟩ := ho.out.slice
      subst hv
      rw [full_len] at hrs ⊢
      have HRS := Lib.hid hrs
      have H3 := Lib.hid (full_w3 k (by omega))
      have HLL := Lib.hid (full_len k)
      have P1 := Lib.hid (P0.out.bel hh.out)
      have BWR := Lib.hid (BW.out.trans hh.out)
      obtain ⟨l, hl⟩ : ∃ l, fullL k = l := ⟨_, rfl⟩
      rw [hl] at HRS H3 HLL
      clear hl hrs ho hh P0 BW hwr
      have HK := Lib.hid hN2
      have C1 := Lib.hid (check A k c l wr HRS.out (by omega))
      have C2 := Lib.hid (fun V (hv : Bel wr V) => checkR A k c l V (HRS.out.bel hv) (by have := HK.out; omega))
      have AD := Lib.hid (fun V (hv : Bel wr V) => add A k c l x1 x2 x3 x4 m V (HRS.out.bel hv) (by have := HK.out; omega) H3.out)
      have AD2 := Lib.hid (fun V (hv : Bel wr V) => addR A k c l x1 x2 x3 x4 m V (HRS.out.bel hv) (by have := HK.out; omega))
      have BY := Lib.hid (fun V (hv : Bel wr V) => bytesH A k c l V (HRS.out.bel hv) (by have := HK.out; omega))
      have BY2 := Lib.hid (fun V (hv : Bel wr V) => bytesHR A k c l V (HRS.out.bel hv) (by have := HK.out; omega))
      have HLA := Lib.hid (show (addL l (x1, x2, x3, x4) m).length ≤ 1000000 from by
        unfold addL; split
        · rw [List.length_append, HLL.out]; simp; omega
        · simp)
      obtain ⟨LA, hLA⟩ : ∃ x, addL l (x1, x2, x3, x4) m = x := ⟨_, rfl⟩
      obtain ⟨EA, hEA⟩ : ∃ x, addE l (x1, x2, x3, x4) m = x := ⟨_, rfl⟩
      obtain ⟨e1, he1⟩ : ∃ e, (chk l).1 = e := ⟨_, rfl⟩
      obtain ⟨e2, he2⟩ : ∃ e, (chk l).2 = e := ⟨_, rfl⟩
      obtain ⟨zs, hzs⟩ : ∃ zs, (if (chk l).1 = 0 then encL l else []) = zs := ⟨_, rfl⟩
      unfold AddR at AD AD2
      rw [hLA, hEA] at AD AD2
      rw [hLA] at HLA
      rw [hzs, he1] at BY BY2
      rw [he1, he2] at C1 C2
      clear hLA hEA he1 he2 hzs
      go_wp2_with fail
      refine C1.out.mono ?_
      rintro e w2 ⟨rfl, kb⟩
      have K2 := Lib.hid kb
      clear kb C1
      go_wp2_with fail
      refine (C2.out _ K2.out).mono ?_
      rintro e w3 ⟨rfl, kb⟩
      have K3 := Lib.hid (K2.out.trans kb)
      have P3 := Lib.hid (P1.out.bel K3.out)
      clear kb C2
      have g0 := P3.out.cell 0 rfl
      have g1 := P3.out.cell 1 rfl
      have g2 := P3.out.cell 2 rfl
      have g3 := P3.out.cell 3 rfl
      go_wp2_with fail
      refine (AD.out _ K3.out).mono ?_
      rintro e w4 ⟨va, rfl, ha, kb⟩
      have HA4 := Lib.hid ha
      have K4 := Lib.hid (K3.out.trans kb)
      have P4 := Lib.hid (P3.out.bel kb)
      clear kb ha AD g0 g1 g2 g3
      have g0 := P4.out.cell 0 rfl
      have g1 := P4.out.cell 1 rfl
      have g2 := P4.out.cell 2 rfl
      have g3 := P4.out.cell 3 rfl
      go_wp2_with fail
      refine (AD2.out _ K4.out).mono ?_
      rintro e w5 ⟨vb, rfl, hb, kb⟩
      have HB5 := Lib.hid hb
      have HA5 := Lib.hid (HA4.out.bel kb)
      have K5 := Lib.hid (K4.out.trans kb)
      have Z45 := Lib.hid (Below.size kb)
      clear kb hb AD2 g0 g1 g2 g3
      go_wp2_with fail
      refine (BY.out _ K5.out).mono ?_
      rintro e w6 ⟨vy, rfl, hy⟩
      have HY6 := Lib.hid hy
      have HA6 := Lib.hid (HA5.out.bel hy.2)
      have HB6 := Lib.hid (HB5.out.bel hy.2)
      have K6 := Lib.hid (K5.out.trans hy.2)
      clear hy BY
      go_wp2_with fail
      refine (BY2.out _ K6.out).mono ?_
      rintro e w7 ⟨vz, rfl, hz⟩
      have HZ7 := Lib.hid hz
      have HY7 := Lib.hid (Kk.owns_bel HY6.out.1 hz.2)
      have HA7 := Lib.hid (HA6.out.bel hz.2)
      have HB7 := Lib.hid (HB6.out.bel hz.2)
      have K7 := Lib.hid (K6.out.trans hz.2)
      have Z56 := Lib.hid (Below.size HY6.out.2)
      clear hz BY2
      obtain ⟨Aa, ca, rfl, har⟩ := HA7.out.slice
      obtain ⟨Ab, cb, rfl, hbr⟩ := HB7.out.slice
      have HYA := Lib.hid (fun (i : Nat) (hk : 0 < LA.length ∧ ∃ x : Addr, Aa = some x ∧ x.block = i) => show w3.heap.size ≤ i ∧ i < w4.heap.size from by
        obtain ⟨_, x, hx, rfl⟩ := hk
        have e := own_addr_ HA4.out hx
        exact ⟨Rw.own_ge HA4.out e, own_lt_ HA4.out e⟩)
      have TA := Lib.hid (told Aa Ab LA.length ca LA.length cb LA LA w7 har hbr (lay_own HA7.out) (by have := HLA.out; omega) (by have := HLA.out; omega))
      rw [decide_eq_true (rfl : LA = LA)] at TA
      clear har hbr
      go_wp2_with fail
      refine TA.out.mono ?_
      rintro e w8 ⟨rfl, Wa, kbw, ov⟩
      have OV := Lib.hid ov
      have HY8 := Lib.hid (Kk.Kep.owns ov.kep (fun i hi hh => by have h1 := (HYA.out i hh).2; have h2 := (HY6.out.1.lt i hi).1; have := Z45.out; omega) (Kk.owns_bel HY7.out kbw))
      have HZ8 := Lib.hid (Kk.Kep.owns ov.kep (fun i hi hh => by have h1 := (HYA.out i hh).2; have h2 := (HZ7.out.1.lt i hi).1; have := Z45.out; have := Z56.out; omega) (Kk.owns_bel HZ7.out.1 kbw))
      have K8 := Lib.hid (show Bel w w8 from Kep.bel ((BWR.out.trans K7.out).trans kbw) ov.kep (fun i hh => Nat.le_trans (Below.size (BWR.out.trans K3.out)) (HYA.out i hh).1))
      clear kbw ov TA
      obtain ⟨Ay, cy, rfl, hys⟩ := sl_of_own HY8.out
      obtain ⟨Az, cz, rfl, hzs⟩ := sl_of_own HZ8.out
      have SM := Lib.hid (same Ay Az zs.length cy zs.length cz zs w8 hys.ints hzs.ints)
      clear hys hzs
      go_wp2_with fail
      refine SM.out.mono ?_
      rintro e w9 ⟨rfl, rfl⟩
      clear SM
      go_wp2_with fail
      refine (awake _).mono ?_
      rintro e w10 ⟨rfl, kb⟩
      have K10 := Lib.hid (K8.out.trans kb)
      clear kb
      go_wp2_with fail
      go_ret
      exact ⟨rfl, K10.out⟩
theorem full (z x1 x2 x3 x4 m : Int) (w : World) (z0 : -9223372036854775808 ≤ z) (z1 : z ≤ 9223372036854775807) (a0 : -9223372036854775808 ≤ x1) (a1 : x1 ≤ 9223372036854775807) (b0 : -9223372036854775808 ≤ x2) (b1 : x2 ≤ 9223372036854775807)
    (c0 : -9223372036854775808 ≤ x3) (c1 : x3 ≤ 9223372036854775807) (d0 : -9223372036854775808 ≤ x4) (d1 : x4 ≤ 9223372036854775807) (m0 : -9223372036854775808 ≤ m) (m1 : m ≤ 9223372036854775807) :
    Calls Try.prog 4 #[.int .i64 z, .agg #[.int .i64 x1, .int .i64 x2, .int .i64 x3, .int .i64 x4], .int .i64 m] w fun e w' => e = .returned (.bool true) ∧ Bel w w' := fullLaw z x1 x2 x3 x4 m w z0 z1
end Hp
end Go.Proofs.Ytahhnfnonekbmaa
