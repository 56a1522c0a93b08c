/-
  What Next, Ripe and Add of the reference answer of any list of hops. Conditions: at most a million hops.
-/
import Derived.Test.YtahhnfnonekbmaaQC
namespace Go.Proofs.Ytahhnfnonekbmaa
open Go.RowKit Go.Shelf
set_option linter.unusedVariables false
set_option linter.unusedSimpArgs false
namespace Hp
open Kk Pm

theorem timeR (x : Int) (w : World) : Calls Try.prog 44 #[.int .i64 x] w fun e w' => e = .returned (.bool (decide (1 ≤ x ∧ x ≤ 1048576))) ∧ w = w' := by
  go_enter Try.func44, Try.ntmps44
  by_cases h : 1 ≤ x
  · by_cases h2 : x ≤ 1048576
    · have hd : decide (1 ≤ x ∧ x ≤ 1048576) = true := decide_eq_true ⟨h, h2⟩
      rw [hd]
      go_wp2
      go_ret
      exact ⟨rfl, rfl⟩
    · have hd : decide (1 ≤ x ∧ x ≤ 1048576) = false := decide_eq_false (by omega)
      rw [hd]
      go_wp2
      go_ret
      exact ⟨rfl, rfl⟩
  · have hd : decide (1 ≤ x ∧ x ≤ 1048576) = false := decide_eq_false (by omega)
    rw [hd]
    go_wp2
    go_ret
    exact ⟨rfl, rfl⟩
set_option maxRecDepth 100000 in
set_option maxHeartbeats 4000000 in
theorem nextR (A : Option Addr) (n c : Nat) (l : List R4) (u : Int) (w : World) (hi : Rw.RS hR w A n c l) (hn : n ≤ 1000000) :
    Calls Try.prog 14 #[.slice A n c, .int .i64 u] w fun e w' => e = .returned (.tuple #[.int .i64 (nxt l u).1, .bool (nxt l u).2]) ∧ Bel w w' := by
  have HI := Lib.hid hi
  have HLN := Lib.hid hi.len
  have CK := Lib.hid (checkR A n c l w hi (by omega))
  have HP := Lib.hid (fun V => timeR u V)
  have NW := Lib.hid (nxt_ways l u)
  obtain ⟨e1, he1⟩ : ∃ e, (chk l).1 = e := ⟨_, rfl⟩
  obtain ⟨e2, he2⟩ : ∃ e, (chk l).2 = e := ⟨_, rfl⟩
  have HE1 := Lib.hid he1
  obtain ⟨R, hR⟩ : ∃ R, nxt l u = R := ⟨_, rfl⟩
  rw [he1, he2] at CK
  rw [hR]
  rw [he1, hR] at NW
  clear hi he1 he2 hR
  go_enter Try.func14, Try.ntmps14
  go_wp2_with fail
  refine CK.out.mono ?_
  rintro e w1 ⟨rfl, kb⟩
  have K1 := Lib.hid kb
  clear kb CK
  by_cases h0 : e1 = 0
  · subst h0
    by_cases hn0 : n = 0
    · obtain rfl : R = (0, false) := NW.out.1 (fun h => by have := h.2.1; have := HLN.out; omega)
      subst hn0
      clear NW
      go_wp2_with fail
      go_ret2
      exact ⟨rfl, K1.out⟩
    · obtain ⟨⟨r1, r2, r3, r4⟩, hr⟩ := HI.out.get (show 0 < n by omega)
      have hn1 : ((n : Int) == 0) = false := by simp; exact hn0
      by_cases hp : 1 ≤ u ∧ u ≤ 1048576
      · have ip := HP.out w1
        rw [decide_eq_true hp] at ip
        obtain rfl : R = (r4 + u, true) := NW.out.2 _ rfl hr hp.1 hp.2
        have HB := Lib.hid (show 1 ≤ r4 ∧ r4 ≤ 4294967296 from may_cr (srt_le l 0 (chk_ok.1 HE1.out).2 _ (List.mem_of_getElem? hr)).1)
        have hwr : IntKind.i64.wrap (r4 + u) = r4 + u := IntWalk.i64_in _ (by have := HB.out; omega)
        obtain ⟨b, o, rfl, hb, hrow⟩ := (HI.out.bel K1.out).at (show 0 < n by omega) hr
        rw [Nat.zero_mul, Nat.add_zero] at hrow
        obtain ⟨c0, c1, c2, c3⟩ := rng4 (show w1.rangeAt b o [.int .i64 r1, .int .i64 r2, .int .i64 r3, .int .i64 r4] from hrow)
        have hn2 : (0 : Int) < n := by omega
        clear hrow hr NW hp c0 c1 c2 hn0
        go_wp2_with fail
        refine ip.mono ?_
        rintro e w2 ⟨rfl, rfl⟩
        clear ip
        go_wp2_with fail
        go_ret2
        exact ⟨rfl, K1.out⟩
      · have ip := HP.out w1
        rw [decide_eq_false hp] at ip
        obtain rfl : R = (0, false) := NW.out.1 (fun h => hp h.2.2)
        clear hr NW hp hn0
        go_wp2_with fail
        refine ip.mono ?_
        rintro e w2 ⟨rfl, rfl⟩
        clear ip
        go_wp2_with fail
        go_ret2
        exact ⟨rfl, K1.out⟩
  · obtain rfl : R = (0, false) := NW.out.1 (fun h => h0 h.1)
    have hne : (e1 != 0) = true := by rw [bne_iff_ne]; exact h0
    clear h0 NW
    go_wp2_with fail
    go_ret2
    exact ⟨rfl, K1.out⟩
theorem rip_next {l : List R4} {k : Nat} {r : R4} (hr : l[k]? = some r) (m : Int) : (cr r ≤ m → rip (l.take (k + 1)) m = rip (l.take k) m ++ [r] ∧ lft (l.take (k + 1)) m = lft (l.take k) m) ∧ (m < cr r → rip (l.take (k + 1)) m = rip (l.take k) m ∧ lft (l.take (k + 1)) m = lft (l.take k) m ++ [r]) := by
  have e1 := into_next hr (fun r => decide (cr r ≤ m))
  have e2 := into_next hr (fun r => decide (m < cr r))
  refine ⟨fun h => ⟨e1.trans ?_, e2.trans ?_⟩, fun h => ⟨e1.trans ?_, e2.trans ?_⟩⟩
  · rw [if_pos (decide_eq_true h)]; rfl
  · rw [if_neg (by simp; omega), List.append_nil]; rfl
  · rw [if_neg (by simp; omega), List.append_nil]; rfl
  · rw [if_pos (decide_eq_true h)]; rfl
set_option maxRecDepth 100000 in
set_option maxHeartbeats 8000000 in
theorem ripeR (A : Option Addr) (n c : Nat) (l : List R4) (h u : Int) (w : World) (hi : Rw.RS hR w A n c l) (hn : n ≤ 1000000) :
    Calls Try.prog 20 #[.slice A n c, .int .i64 h, .int .i64 u] w fun e w' => ∃ v1 v2, e = .returned (.tuple #[v1, v2, .int .i64 (ripE l h u)]) ∧ OwnH w' w.heap.size v1 (ripL l h u) ∧ OwnH w' w.heap.size v2 (lftL l h u) ∧ Bel w w' := by
  have HR := Lib.hid hi
  have HLN := Lib.hid hi.len
  have CK := Lib.hid (checkR A n c l w hi (by omega))
  have HP := Lib.hid (fun V => timeR u V)
  have RW_ := Lib.hid (rip_ways l h u)
  obtain ⟨e1, he1⟩ : ∃ e, (chk l).1 = e := ⟨_, rfl⟩
  obtain ⟨e2, he2⟩ : ∃ e, (chk l).2 = e := ⟨_, rfl⟩
  have HE1 := Lib.hid he1
  rw [he1, he2] at CK
  rw [he1] at RW_
  clear hi he1 he2
  have FIN : ∀ (W : World) (x : Int), Bel w W → ripE l h u = x → x ≠ 0 → ∃ v1 v2, Ending.returned (.tuple #[.slice none 0 0, .slice none 0 0, .int .i64 x]) = .returned (.tuple #[v1, v2, .int .i64 (ripE l h u)]) ∧ OwnH W w.heap.size v1 (ripL l h u) ∧ OwnH W w.heap.size v2 (lftL l h u) ∧ Bel w W := fun W x hb he hx => by
    obtain ⟨q1, q2⟩ := rip_nil (l := l) (h := h) (u := u) (by rw [he]; exact hx)
    exact ⟨_, _, by rw [he], by rw [q1]; exact Rw.OwnR.nil_ _ _ _ _, by rw [q2]; exact Rw.OwnR.nil_ _ _ _ _, hb⟩
  have FIN := Lib.hid FIN
  go_enter Try.func20, Try.ntmps20
  go_wp2_with fail
  refine CK.out.mono ?_
  rintro e w1 ⟨rfl, kb⟩
  have K1 := Lib.hid kb
  clear kb CK
  by_cases h0 : e1 = 0
  · subst h0
    have hR2 := RW_.out.2
    by_cases hb1 : 1 ≤ h
    · by_cases hb2 : h ≤ 4294967296
      · by_cases hp : 1 ≤ u ∧ u ≤ 1048576
        · have ip := HP.out w1
          rw [decide_eq_true hp] at ip
          have HE := Lib.hid (hR2.2 rfl ⟨hb1, hb2, hp.1, hp.2⟩)
          have HOK := Lib.hid (chk_ok.1 HE1.out)
          have hb3 : ¬ h < 1 := by omega
          have hb4 : ¬ 4294967296 < h := by omega
          have HU := Lib.hid hp
          clear hR2 RW_ hp FIN hb1 hb2
          go_wp2_with fail
          refine ip.mono ?_
          rintro e w2 ⟨rfl, rfl⟩
          clear ip
          go_wp2_with fail
          go_loopw [11, 12, 13] (fun s11 s12 s13 wr => ∃ k : Nat, k ≤ n ∧ s13 = .int .i64 k ∧ Hid (OwnH wr w.heap.size s11 (rip (l.take k) (h - u))) ∧ Hid (OwnH wr w.heap.size s12 (lft (l.take k) (h - u))) ∧ Hid (∀ i, s11.ownBlock = some i → s12.ownBlock ≠ some i) ∧ Hid (Bel w wr)) (fun _ _ s13 _ => n - (intOf s13).toNat)
          case atStart => exact ⟨0, Nat.zero_le _, rfl, Lib.hid (Rw.OwnR.nil_ _ _ _ _), Lib.hid (Rw.OwnR.nil_ _ _ _ _), Lib.hid (fun i h => by cases h), K1⟩
          case round =>
            obtain ⟨k, hk, rfl, h1, h2, HAP, HBE⟩ := hrel
            by_cases hlt : k < n
            · obtain ⟨⟨r1, r2, r3, r4⟩, hr⟩ := HR.out.get hlt
              obtain ⟨b, q, rfl, hb, hrow⟩ := (HR.out.bel HBE.out).at hlt hr
              have HNX := Lib.hid (rip_next hr (h - u))
              have HLE := Lib.hid (show (rip (l.take k) (h - u)).length ≤ k ∧ (lft (l.take k) (h - u)).length ≤ k from ⟨Nat.le_trans (List.length_filter_le _ _) (by rw [List.length_take]; omega), Nat.le_trans (List.length_filter_le _ _) (by rw [List.length_take]; omega)⟩)
              have HB := Lib.hid (show 1 ≤ r4 ∧ r4 ≤ 4294967296 from may_cr (srt_le l 0 HOK.out.2 _ (List.mem_of_getElem? hr)).1)
              have hwr : IntKind.i64.wrap (r4 + u) = r4 + u := IntWalk.i64_in _ (by have := HB.out; have := HU.out; omega)
              have hlt3 : (k : Int) < n := by omega
              have hlt0 : (0 : Int) ≤ k := by omega
              obtain ⟨c0, c1, c2, c3⟩ := rng4 (show wr.rangeAt b (q + k * 4) [.int .i64 r1, .int .i64 r2, .int .i64 r3, .int .i64 r4] from hrow)
              have HX := Lib.hid (Rw.rs_one hR (r := (r1, r2, r3, r4)) (Blk.new wr #[.int .i64 r1, .int .i64 r2, .int .i64 r3, .int .i64 r4] 24))
              have HSZ := Lib.hid (Below.size HBE.out)
              have h1_ := h1
              have h2_ := h2
              clear hr hrow
              by_cases hq : r4 + u ≤ h
              · have HN := Lib.hid (HNX.out.1 (show r4 ≤ h - u by omega))
                clear HNX
                have HOA := Lib.hid (h1.out.bel ((Bel.refl wr).alloc (.cells #[.int .i64 r1, .int .i64 r2, .int .i64 r3, .int .i64 r4] 24)))
                have HTA := Lib.hid (h2.out.bel ((Bel.refl wr).alloc (.cells #[.int .i64 r1, .int .i64 r2, .int .i64 r3, .int .i64 r4] 24)))
                go_wp2_with (at_builtin; refine Rw.wpList_append_lies hR rfl _ _ _ 24 rfl underH zero_h rfl (by decide) w.heap.size _ (rip (l.take k) (h - u)) rfl HOA.out (some ⟨wr.heap.size, 0, none⟩) 1 1 [(r1, r2, r3, r4)] rfl HX.out (by omega) (by have := HLE.out; omega) (by have := HSZ.out; simp; omega) ?_; intro g cap w1 hown' hgrow hlie hlt1)
                have hgrow : World.grownBy _ w1 (Value.ownBlock u11) := hgrow
                have hlie : Value.ownBlock u11 = some g ∨ g = (World.heap (wr.alloc (.cells #[.int .i64 r1, .int .i64 r2, .int .i64 r3, .int .i64 r4] 24))).size := hlie
                have HO2 := Lib.hid hown'
                have HB2 := Lib.hid (show Bel w w1 from Kk.Bel.grown (HBE.out.alloc _) hgrow (fun k hk => (HOA.out.lt k hk).1))
                have HT2 := Lib.hid (show OwnH w1 w.heap.size _ _ from HTA.out.kept hgrow (by
                  rcases hx : Value.ownBlock u12 with _ | i
                  · exact .inl rfl
                  · exact .inr (fun e => HAP.out i e.symm hx)))
                have HA2 := Lib.hid (show ∀ i, (Value.slice (some ⟨g, 0, none⟩) ((rip (l.take k) (h - u)).length + 1) cap).ownBlock = some i → u12.ownBlock ≠ some i from fun i h1 h2 => by
                  obtain rfl : g = i := Option.some.inj h1
                  rcases hlie with h3 | h3
                  · exact HAP.out g h3 h2
                  · have := (h2_.out.lt g h2).2
                    rw [World.size_alloc] at h3
                    omega)
                clear hown' hgrow hlie
                go_wp2_with fail
                go_roundw
                case rel => exact ⟨k + 1, by omega, by go_num, Lib.hid (by rw [HN.out.1]; exact HO2.out), Lib.hid (by rw [HN.out.2]; exact HT2.out), HA2, HB2⟩
                case measure => simp [intOf]; omega
              · have HN := Lib.hid (HNX.out.2 (show h - u < r4 by omega))
                clear HNX
                have HOA := Lib.hid (h2.out.bel ((Bel.refl wr).alloc (.cells #[.int .i64 r1, .int .i64 r2, .int .i64 r3, .int .i64 r4] 24)))
                have HTA := Lib.hid (h1.out.bel ((Bel.refl wr).alloc (.cells #[.int .i64 r1, .int .i64 r2, .int .i64 r3, .int .i64 r4] 24)))
                go_wp2_with (at_builtin; refine Rw.wpList_append_lies hR rfl _ _ _ 24 rfl underH zero_h rfl (by decide) w.heap.size _ (lft (l.take k) (h - u)) rfl HOA.out (some ⟨wr.heap.size, 0, none⟩) 1 1 [(r1, r2, r3, r4)] rfl HX.out (by omega) (by have := HLE.out; omega) (by have := HSZ.out; simp; omega) ?_; intro g cap w1 hown' hgrow hlie hlt1)
                have hgrow : World.grownBy _ w1 (Value.ownBlock u12) := hgrow
                have hlie : Value.ownBlock u12 = some g ∨ g = (World.heap (wr.alloc (.cells #[.int .i64 r1, .int .i64 r2, .int .i64 r3, .int .i64 r4] 24))).size := hlie
                have HO2 := Lib.hid hown'
                have HB2 := Lib.hid (show Bel w w1 from Kk.Bel.grown (HBE.out.alloc _) hgrow (fun k hk => (HOA.out.lt k hk).1))
                have HT2 := Lib.hid (show OwnH w1 w.heap.size _ _ from HTA.out.kept hgrow (by
                  rcases hx : Value.ownBlock u11 with _ | i
                  · exact .inl rfl
                  · exact .inr (fun e => HAP.out i hx e.symm)))
                have HA2 := Lib.hid (show ∀ i, u11.ownBlock = some i → (Value.slice (some ⟨g, 0, none⟩) ((lft (l.take k) (h - u)).length + 1) cap).ownBlock ≠ some i from fun i h1 h2 => by
                  obtain rfl : g = i := Option.some.inj h2
                  rcases hlie with h3 | h3
                  · exact HAP.out g h1 h3
                  · have := (h1_.out.lt g h1).2
                    rw [World.size_alloc] at h3
                    omega)
                clear hown' hgrow hlie
                go_wp2_with fail
                go_roundw
                case rel => exact ⟨k + 1, by omega, by go_num, Lib.hid (by rw [HN.out.1]; exact HT2.out), Lib.hid (by rw [HN.out.2]; exact HO2.out), HA2, HB2⟩
                case measure => simp [intOf]; omega
            · obtain rfl : k = n := by omega
              have HL := Lib.hid (show l.take k = l from List.take_of_length_le (by rw [HLN.out]; exact Nat.le_refl _))
              rw [HL.out] at h1 h2
              have E1 := Lib.hid (show ripL l h u = rip l (h - u) from if_pos HE.out)
              have E2 := Lib.hid (show lftL l h u = lft l (h - u) from if_pos HE.out)
              go_wp2_with fail
              go_ret3
              exact ⟨_, _, by rw [HE.out]; rfl, by rw [E1.out]; exact h1.out, by rw [E2.out]; exact h2.out, HBE.out⟩
        · have ip := HP.out w1
          rw [decide_eq_false hp] at ip
          have HE := Lib.hid (hR2.1 rfl (fun h => hp h.2.2))
          have hb3 : ¬ h < 1 := by omega
          have hb4 : ¬ 4294967296 < h := by omega
          clear hR2 RW_ hp
          go_wp2_with fail
          refine ip.mono ?_
          rintro e w2 ⟨rfl, rfl⟩
          clear ip
          go_wp2_with fail
          go_ret3
          exact FIN.out _ 3 K1.out HE.out (by decide)
      · have HE := Lib.hid (hR2.1 rfl (fun h => hb2 h.2.1))
        have hb3 : ¬ h < 1 := by omega
        have hb4 : 4294967296 < h := by omega
        clear hR2 RW_
        go_wp2_with fail
        go_ret3
        exact FIN.out _ 3 K1.out HE.out (by decide)
    · have HE := Lib.hid (hR2.1 rfl (fun h => hb1 h.1))
      have hb3 : h < 1 := by omega
      clear hR2 RW_
      go_wp2_with fail
      go_ret3
      exact FIN.out _ 3 K1.out HE.out (by decide)
  · have HE := Lib.hid (RW_.out.1 h0)
    have hne : (e1 != 0) = true := by rw [bne_iff_ne]; exact h0
    have H0 := Lib.hid h0
    clear h0
    go_wp2_with fail
    go_ret3
    exact FIN.out _ e1 K1.out HE.out H0.out
set_option maxRecDepth 100000 in
set_option maxHeartbeats 8000000 in
theorem addR (A : Option Addr) (n c : Nat) (l : List R4) (x1 x2 x3 x4 m : Int) (w : World) (hi : Rw.RS hR w A n c l) (hn : n ≤ 1000000) :
    Calls Try.prog 18 #[.slice A n c, .agg #[.int .i64 x1, .int .i64 x2, .int .i64 x3, .int .i64 x4], .int .i64 m] w fun e w' => AddR w w' l (x1, x2, x3, x4) m e := by
  have HI := Lib.hid hi
  have HLN := Lib.hid hi.len
  have P0 := Lib.hid (Blk.new w #[.int .i64 x1, .int .i64 x2, .int .i64 x3, .int .i64 x4] 24)
  obtain ⟨W, hW⟩ : ∃ W, w.alloc (.cells #[.int .i64 x1, .int .i64 x2, .int .i64 x3, .int .i64 x4] 24) = W := ⟨_, rfl⟩
  have BW := Lib.hid (show Bel w W by rw [← hW]; exact (Bel.refl w).alloc _)
  rw [hW] at P0
  have CK := Lib.hid (checkR A n c l W (hi.bel BW.out) (by omega))
  have IH := Lib.hid (fun V => mayR x1 x2 x3 x4 V)
  have CN := Lib.hid (fun V (hv : Bel w V) (h1 : I64 x1) (h2 : I64 x2) (h4 : I64 x3) => countR A n c l x1 x2 x3 V (hi.bel hv) (by omega))
  have AW := Lib.hid (add_ways l (x1, x2, x3, x4) m)
  obtain ⟨e1, he1⟩ : ∃ e, (chk l).1 = e := ⟨_, rfl⟩
  obtain ⟨e2, he2⟩ : ∃ e, (chk l).2 = e := ⟨_, rfl⟩
  have HE1 := Lib.hid he1
  rw [he1, he2] at CK
  rw [he1] at AW
  clear hi he1 he2
  have FIN : ∀ (V : World) (x : Int), Bel w V → addE l (x1, x2, x3, x4) m = x → x ≠ 0 → AddR w V l (x1, x2, x3, x4) m (.returned (.tuple #[.slice none 0 0, .int .i64 x])) := fun V x hb he hx =>
    ⟨_, by rw [he], by rw [addL_ne (by rw [he]; exact hx)]; exact Rw.OwnR.nil_ _ _ _ _, hb⟩
  have FIN := Lib.hid FIN
  go_enter Try.func18, Try.ntmps18
  go_upto_region 1 with fail
  try rw [hW]
  have HG := Lib.hid (show w.heap.size ≤ w.heap.size from Nat.le_refl _)
  obtain ⟨g, hg⟩ : ∃ g, w.heap.size = g := ⟨_, rfl⟩
  rw [hg] at P0 ⊢
  have HGG := Lib.hid hg
  clear hW hg
  go_wp2_with fail
  refine CK.out.mono ?_
  rintro e w1 ⟨rfl, kb⟩
  have K1 := Lib.hid (BW.out.trans kb)
  have P1 := Lib.hid (P0.out.bel kb)
  clear kb CK P0
  have g0 := P1.out.cell 0 rfl
  have g1 := P1.out.cell 1 rfl
  have g2 := P1.out.cell 2 rfl
  have g3 := P1.out.cell 3 rfl
  by_cases h0 : e1 = 0
  · subst h0
    have AW2 := Lib.hid (show _ from AW.out.2)
    obtain ⟨y, hy⟩ : ∃ y, may (x1, x2, x3, x4) = y := ⟨_, rfl⟩
    have ih := IH.out w1
    rw [hy] at ih AW2
    have HY := Lib.hid hy
    clear hy AW
    cases y
    · have HE := Lib.hid (AW2.out.1 (by simp) (.inl rfl))
      clear AW2
      go_wp2_with fail
      refine ih.mono ?_
      rintro e w2 ⟨rfl, kb⟩
      have K2 := Lib.hid (K1.out.trans kb)
      clear kb ih g0 g1 g2 g3
      go_wp2_with fail
      go_ret2
      exact FIN.out _ 3 K2.out HE.out (by decide)
    · have HX := Lib.hid ((may_iff _ _ _ _).1 HY.out)
      go_wp2_with fail
      refine ih.mono ?_
      rintro e w2 ⟨rfl, kb⟩
      have K2 := Lib.hid (K1.out.trans kb)
      have P2 := Lib.hid (P1.out.bel kb)
      clear kb ih g0 g1 g2 g3 P1
      by_cases hm1 : m < 1
      · have HE := Lib.hid (AW2.out.1 (by simp) (.inr (.inl hm1)))
        clear AW2
        go_wp2_with fail
        go_ret2
        exact FIN.out _ 3 K2.out HE.out (by decide)
      · by_cases hm2 : 16 < m
        · have HE := Lib.hid (AW2.out.1 (by simp) (.inr (.inr hm2)))
          clear AW2
          go_wp2_with fail
          go_ret2
          exact FIN.out _ 3 K2.out HE.out (by decide)
        · have hno : ¬ (true = false ∨ m < 1 ∨ 16 < m) := by simp; omega
          have AW3 := Lib.hid (⟨AW2.out.2.1 (by simp) hno, AW2.out.2.2.1 (by simp) hno, AW2.out.2.2.2.1 (by simp) hno, AW2.out.2.2.2.2 (by simp) hno⟩ : _ ∧ _ ∧ _ ∧ _)
          clear AW2 hno
          have g3 := P2.out.cell 3 rfl
          have CNT := Lib.hid (fun V (hv : Bel w V) => CN.out V hv ⟨by have := HX.out; omega, by have := HX.out; omega⟩ ⟨by have := HX.out; omega, by have := HX.out; omega⟩ ⟨by have := HX.out; omega, by have := HX.out; omega⟩)
          by_cases hn0 : n = 0
          · have HB := Lib.hid (show ¬ cr (x1, x2, x3, x4) < bef 0 l l.length from by
              rw [HLN.out, hn0]
              have := (may_cr HY.out).1
              show ¬ _ < (0 : Int)
              omega)
            have hnn : decide ((0 : Int) < (n : Int)) = false := decide_eq_false (by omega)
            subst hn0
            go_upto_region 6 with fail
            go_quiet (fail)
            have K3 := Lib.hid (K2.out.trans (bel_drewN w2 nq))
            have P3 := Lib.hid (P2.out.bel (bel_drewN w2 nq))
            generalize hV : World.drewN w2 nq = V at K3 P3 ⊢
            clear hV
            have g0 := P3.out.cell 0 rfl
            have g1 := P3.out.cell 1 rfl
            have g2 := P3.out.cell 2 rfl
            have CT := Lib.hid (CNT.out V K3.out)
            obtain ⟨C, hC⟩ : ∃ C, cnt l x1 x2 x3 = C := ⟨_, rfl⟩
            rw [hC] at CT
            have HC := Lib.hid hC
            clear hC CNT
            go_wp2_with fail
            refine CT.out.mono ?_
            rintro e w4 ⟨rfl, kb⟩
            have K4 := Lib.hid (K3.out.trans kb)
            have P4 := Lib.hid (P3.out.bel kb)
            clear kb CT g0 g1 g2 P3
            by_cases hc : m ≤ (C : Int)
            · have HE := Lib.hid (AW3.out.2.1 HB.out (by show m ≤ (cnt l x1 x2 x3 : Int); rw [HC.out]; exact hc))
              clear AW3
              go_wp2_with fail
              go_ret2
              exact FIN.out _ 22 K4.out HE.out (by decide)
            · have hcn : ¬ m ≤ ((cnt l (x1, x2, x3, x4).1 (x1, x2, x3, x4).2.1 (x1, x2, x3, x4).2.2.1 : Nat) : Int) := by show ¬ m ≤ (cnt l x1 x2 x3 : Int); rw [HC.out]; exact hc
              · have HE := Lib.hid (AW3.out.2.2.2 HB.out (by first | exact hcn | exact Int.not_le.1 hcn) (by rw [HLN.out]; decide))
                clear AW3 hcn
                go_upto_region 12 with fail
                have CP := Lib.hid (fun V (hv : Bel w4 V) => copy A 0 c l V (HI.out.bel (K4.out.trans hv)) (by omega))
                refine wp_region_held_drew (S := fun Vx => Bel w4 Vx) (by kernel_rfl) (Bel.refl _).drew (fun hS0 => ?_)
                obtain ⟨w6, hw6⟩ : ∃ w6, World.drew w4 = w6 := ⟨_, rfl⟩
                rw [hw6] at hS0 ⊢
                clear hw6
                have H46 := Lib.hid hS0
                refine wpAnyH_take (i := 0) (oi := { dst := some 62, op := .move (.tmp 0), type := 22, pos := "ref.go:68", after := #[], guard := none }) (v := .slice A 0 c) rfl (by kernel_rfl) (by kernel_rfl) (by kernel_rfl) (fun _ _ _ h => h) (Or.inl ⟨by rfl, by intro w hSw; clear hSw; go_simp⟩) hS0 ?_
                try simp only [Act.put, List.setIfInBounds_toArray, List.set_cons_zero, List.set_cons_succ]
                refine wpAnyH_take (i := 2) (oi := { dst := some 64, op := .load 24 (.tmp 4), type := 24, pos := "ref.go:68", after := #[], guard := none }) (v := .agg #[.int .i64 x1, .int .i64 x2, .int .i64 x3, .int .i64 x4]) rfl (by kernel_rfl) (by kernel_rfl) (by kernel_rfl) (fun _ _ _ h => h) (yieldsIf_load_mid (by rfl) _ _ rfl _ _ rfl _ _ (fun w h => rng_bel (rngB (C := [.int .i64 x1, .int .i64 x2, .int .i64 x3, .int .i64 x4]) P4.out) h) Try.underlying24 rfl info_h) hS0 ?_
                try simp only [Act.put, List.setIfInBounds_toArray, List.set_cons_zero, List.set_cons_succ]
                refine wpAnyH_ready (rs := [1, 3]) (by kernel_rfl) (by simp) ?_
                refine AllReadyH.cons (o := { dst := some 63, op := .call { callee := .value (.func 10), args := #[.tmp 62], argTypes := #[22] }, type := 22, pos := "ref.go:68", after := #[{ on := 0, ground := .data }], guard := none }) rfl (fun K hK => ?_) (AllReadyH.cons (o := { dst := some 65, op := .buildSlice 22 1 #[(0, .tmp 64)], type := 22, pos := "ref.go:68", after := #[{ on := 2, ground := .data }], guard := none }) rfl (fun K hK => ?_) AllReadyH.nil)
                · go_simp
                  refine (CP.out _ hS0).mono ?_
                  rintro e v1 ⟨vv, rfl, ho, kb⟩
                  go_wp2_with fail
                  refine hK.out _ _ (hS0.trans kb) (fun hS1 => ?_)
                  clear hK K
                  try simp only [Act.put, List.setIfInBounds_toArray, List.set_cons_zero, List.set_cons_succ]
                  refine wpAnyH_ready (rs := [3]) (by kernel_rfl) (by simp) ?_
                  refine AllReadyH.cons (o := { dst := some 65, op := .buildSlice 22 1 #[(0, .tmp 64)], type := 22, pos := "ref.go:68", after := #[{ on := 2, ground := .data }], guard := none }) rfl (fun K hK => ?_) AllReadyH.nil
                  go_simp
                  refine hK.out _ _ (hS1.alloc _) (fun hS2 => ?_)
                  clear hK K
                  try simp only [Act.put, List.setIfInBounds_toArray, List.set_cons_zero, List.set_cons_succ]
                  have gbb := Blk.new v1 #[.int .i64 x1, .int .i64 x2, .int .i64 x3, .int .i64 x4] 24
                  have gbl := Lib.hid (Below.size hS1)
                  generalize hvq : World.alloc v1 (Obj.cells #[.int .i64 x1, .int .i64 x2, .int .i64 x3, .int .i64 x4] 24) = v2 at gbb hS2 ⊢
                  have gbk : Bel v1 v2 := by rw [← hvq]; exact (Bel.refl _).alloc _
                  clear hvq
                  obtain ⟨gb, hgq⟩ : ∃ g, (World.heap v1).size = g := ⟨_, rfl⟩
                  rw [hgq] at gbb gbl ⊢
                  clear hgq
                  have gbb := Lib.hid gbb
                  refine wpAnyH_ready (rs := [4]) (by kernel_rfl) (by simp) ?_
                  refine AllReadyH.cons (o := { dst := some 66, op := .call { callee := .builtin .append, args := #[.tmp 63, .tmp 65], argTypes := #[22, 22] }, type := 22, pos := "ref.go:68", after := #[{ on := 1, ground := .data }, { on := 3, ground := .data }, { on := 1, ground := .chain }], guard := none }) rfl (fun K hK => ?_) AllReadyH.nil
                  have HO4 := Lib.hid (show OwnH v2 w4.heap.size vv l from by first | exact (ho.bel gbk).mono (Below.size H46.out) | exact ho.mono (Nat.le_trans (Below.size H46.out) (Below.size gbk)))
                  have HX4 := Lib.hid (show Rw.RS hR v2 (some ⟨gb, 0, none⟩) 1 1 [(x1, x2, x3, x4)] from by first | exact Rw.rs_one hR gbb.out | exact Rw.rs_one hR (gbb.out.bel kb))
                  obtain ⟨v9, W9, hAP, hOW, hgr⟩ := Rw.run_append_R hR 22 22 24 underH zero_h rfl (by decide) HO4.out HX4.out (by omega) (by have := HLN.out; omega) (Below.size (show Bel w4 v2 from hS2))
                  have HB9 := Lib.hid (show Bel w4 W9 from Kk.Bel.grown hS2 hgr (fun k hk => (HO4.out.lt k hk).1))
                  have HAP := Lib.hid hAP
                  have HOW := Lib.hid hOW
                  clear hAP hOW hgr
                  refine Rw.step_append_run rfl (.tmp 63) (.tmp 65) 22 22 rfl _ _ (by simp [Act.eval, Act.put]) (by simp [Act.eval, Act.put]) HAP.out ?_
                  refine hK.out _ _ (HB9.out) (fun hS3 => ?_)
                  clear hK K
                  try simp only [Act.put, List.setIfInBounds_toArray, List.set_cons_zero, List.set_cons_succ]
                  refine wpAnyH_take (i := 5) (oi := { dst := some 6, op := .assign (.tmp 66), type := 22, pos := "ref.go:68", after := #[{ on := 4, ground := .data }, { on := 4, ground := .chain }, { on := 0, ground := .phase }, { on := 1, ground := .phase }, { on := 2, ground := .phase }, { on := 3, ground := .phase }, { on := 4, ground := .phase }], guard := none }) (v := v9) rfl (by kernel_rfl) (by kernel_rfl) (by kernel_rfl) (fun _ _ _ h => h) (Or.inl ⟨by rfl, by intro w hSw; clear hSw; go_simp⟩) hS3 ?_
                  try simp only [Act.put, List.setIfInBounds_toArray, List.set_cons_zero, List.set_cons_succ]
                  refine wpAnyH_take (i := 6) (oi := { dst := some 7, op := .assign (.const (Value.int IntKind.i64 0)), type := 27, pos := "ref.go:68", after := #[{ on := 5, ground := .chain }, { on := 0, ground := .phase }, { on := 1, ground := .phase }, { on := 2, ground := .phase }, { on := 3, ground := .phase }, { on := 4, ground := .phase }, { on := 5, ground := .phase }], guard := none }) (v := .int .i64 0) rfl (by kernel_rfl) (by kernel_rfl) (by kernel_rfl) (fun _ _ _ h => h) (Or.inl ⟨by rfl, by intro w hSw; clear hSw; go_simp⟩) hS3 ?_
                  try simp only [Act.put, List.setIfInBounds_toArray, List.set_cons_zero, List.set_cons_succ]
                  refine wpAnyH_done (by kernel_rfl) ?_ _
                  go_wp2_with fail
                  go_ret2
                  refine ⟨_, by rw [HE.out]; rfl, ?_, K4.out.trans HB9.out⟩
                  rw [addL_eq HE.out]
                  exact HOW.out.mono (Below.size K4.out)
                · go_simp
                  refine hK.out _ _ (hS0.alloc _) (fun hS1 => ?_)
                  clear hK K
                  try simp only [Act.put, List.setIfInBounds_toArray, List.set_cons_zero, List.set_cons_succ]
                  have gbb := Blk.new w6 #[.int .i64 x1, .int .i64 x2, .int .i64 x3, .int .i64 x4] 24
                  have gbl := Lib.hid (Below.size hS0)
                  generalize hvq : World.alloc w6 (Obj.cells #[.int .i64 x1, .int .i64 x2, .int .i64 x3, .int .i64 x4] 24) = v1 at gbb hS1 ⊢
                  have gbk : Bel w6 v1 := by rw [← hvq]; exact (Bel.refl _).alloc _
                  clear hvq
                  obtain ⟨gb, hgq⟩ : ∃ g, (World.heap w6).size = g := ⟨_, rfl⟩
                  rw [hgq] at gbb gbl ⊢
                  clear hgq
                  have gbb := Lib.hid gbb
                  refine wpAnyH_ready (rs := [1]) (by kernel_rfl) (by simp) ?_
                  refine AllReadyH.cons (o := { dst := some 63, op := .call { callee := .value (.func 10), args := #[.tmp 62], argTypes := #[22] }, type := 22, pos := "ref.go:68", after := #[{ on := 0, ground := .data }], guard := none }) rfl (fun K hK => ?_) AllReadyH.nil
                  go_simp
                  refine (CP.out _ hS1).mono ?_
                  rintro e v2 ⟨vv, rfl, ho, kb⟩
                  go_wp2_with fail
                  refine hK.out _ _ (hS1.trans kb) (fun hS2 => ?_)
                  clear hK K
                  try simp only [Act.put, List.setIfInBounds_toArray, List.set_cons_zero, List.set_cons_succ]
                  refine wpAnyH_ready (rs := [4]) (by kernel_rfl) (by simp) ?_
                  refine AllReadyH.cons (o := { dst := some 66, op := .call { callee := .builtin .append, args := #[.tmp 63, .tmp 65], argTypes := #[22, 22] }, type := 22, pos := "ref.go:68", after := #[{ on := 1, ground := .data }, { on := 3, ground := .data }, { on := 1, ground := .chain }], guard := none }) rfl (fun K hK => ?_) AllReadyH.nil
                  have HO4 := Lib.hid (show OwnH v2 w4.heap.size vv l from by first | exact (ho.bel gbk).mono (Below.size H46.out) | exact ho.mono (Nat.le_trans (Below.size H46.out) (Below.size gbk)))
                  have HX4 := Lib.hid (show Rw.RS hR v2 (some ⟨gb, 0, none⟩) 1 1 [(x1, x2, x3, x4)] from by first | exact Rw.rs_one hR gbb.out | exact Rw.rs_one hR (gbb.out.bel kb))
                  obtain ⟨v9, W9, hAP, hOW, hgr⟩ := Rw.run_append_R hR 22 22 24 underH zero_h rfl (by decide) HO4.out HX4.out (by omega) (by have := HLN.out; omega) (Below.size (show Bel w4 v2 from hS2))
                  have HB9 := Lib.hid (show Bel w4 W9 from Kk.Bel.grown hS2 hgr (fun k hk => (HO4.out.lt k hk).1))
                  have HAP := Lib.hid hAP
                  have HOW := Lib.hid hOW
                  clear hAP hOW hgr
                  refine Rw.step_append_run rfl (.tmp 63) (.tmp 65) 22 22 rfl _ _ (by simp [Act.eval, Act.put]) (by simp [Act.eval, Act.put]) HAP.out ?_
                  refine hK.out _ _ (HB9.out) (fun hS3 => ?_)
                  clear hK K
                  try simp only [Act.put, List.setIfInBounds_toArray, List.set_cons_zero, List.set_cons_succ]
                  refine wpAnyH_take (i := 5) (oi := { dst := some 6, op := .assign (.tmp 66), type := 22, pos := "ref.go:68", after := #[{ on := 4, ground := .data }, { on := 4, ground := .chain }, { on := 0, ground := .phase }, { on := 1, ground := .phase }, { on := 2, ground := .phase }, { on := 3, ground := .phase }, { on := 4, ground := .phase }], guard := none }) (v := v9) rfl (by kernel_rfl) (by kernel_rfl) (by kernel_rfl) (fun _ _ _ h => h) (Or.inl ⟨by rfl, by intro w hSw; clear hSw; go_simp⟩) hS3 ?_
                  try simp only [Act.put, List.setIfInBounds_toArray, List.set_cons_zero, List.set_cons_succ]
                  refine wpAnyH_take (i := 6) (oi := { dst := some 7, op := .assign (.const (Value.int IntKind.i64 0)), type := 27, pos := "ref.go:68", after := #[{ on := 5, ground := .chain }, { on := 0, ground := .phase }, { on := 1, ground := .phase }, { on := 2, ground := .phase }, { on := 3, ground := .phase }, { on := 4, ground := .phase }, { on := 5, ground := .phase }], guard := none }) (v := .int .i64 0) rfl (by kernel_rfl) (by kernel_rfl) (by kernel_rfl) (fun _ _ _ h => h) (Or.inl ⟨by rfl, by intro w hSw; clear hSw; go_simp⟩) hS3 ?_
                  try simp only [Act.put, List.setIfInBounds_toArray, List.set_cons_zero, List.set_cons_succ]
                  refine wpAnyH_done (by kernel_rfl) ?_ _
                  go_wp2_with fail
                  go_ret2
                  refine ⟨_, by rw [HE.out]; rfl, ?_, K4.out.trans HB9.out⟩
                  rw [addL_eq HE.out]
                  exact HOW.out.mono (Below.size K4.out)
          · obtain ⟨⟨p1, p2, p3, p4⟩, hp⟩ := HI.out.get (show n - 1 < n by omega)
            obtain ⟨b, o, rfl, hb, hrow⟩ := (HI.out.bel K2.out).at (show n - 1 < n by omega) hp
            obtain ⟨d0, d1, d2, d3⟩ := rng4 (show w2.rangeAt b (o + (n - 1) * 4) [.int .i64 p1, .int .i64 p2, .int .i64 p3, .int .i64 p4] from hrow)
            obtain ⟨j, hj⟩ : ∃ j, n = j + 1 := ⟨n - 1, by omega⟩
            rw [show n - 1 = j by omega] at d3 hp
            have HBF := Lib.hid (show bef 0 l l.length = p4 from bef_last (HLN.out.trans hj) hp)
            have hs : IntKind.i64.wrap ((n : Int) - 1) = (j : Int) := by rw [IntWalk.i64_in _ (by omega)]; omega
            have hj3 : (j : Int) < (n : Int) := by omega
            have hj0 : (0 : Int) < (n : Int) := by omega
            have hjn : 0 < n := by omega
            clear hrow hp hn0 d0 d1 d2 hj
            by_cases h6 : x4 < p4
            · have HE := Lib.hid (AW3.out.1 (by rw [HBF.out]; exact h6))
              clear AW3
              go_upto_region 6 with fail
              go_quiet (fail)
              go_wp2_with fail
              go_ret2
              exact FIN.out _ 9 (K2.out.trans (by first | exact Bel.refl _ | exact bel_drewN _ _)) HE.out (by decide)
            · have HB := Lib.hid (show ¬ cr (x1, x2, x3, x4) < bef 0 l l.length by rw [HBF.out]; exact h6)
              go_upto_region 6 with fail
              go_quiet (fail)
              have K3 := Lib.hid (K2.out.trans (bel_drewN w2 nq))
              have P3 := Lib.hid (P2.out.bel (bel_drewN w2 nq))
              generalize hV : World.drewN w2 nq = V at K3 P3 ⊢
              clear hV
              have g0 := P3.out.cell 0 rfl
              have g1 := P3.out.cell 1 rfl
              have g2 := P3.out.cell 2 rfl
              have CT := Lib.hid (CNT.out V K3.out)
              obtain ⟨C, hC⟩ : ∃ C, cnt l x1 x2 x3 = C := ⟨_, rfl⟩
              rw [hC] at CT
              have HC := Lib.hid hC
              clear hC CNT
              go_wp2_with fail
              refine CT.out.mono ?_
              rintro e w4 ⟨rfl, kb⟩
              have K4 := Lib.hid (K3.out.trans kb)
              have P4 := Lib.hid (P3.out.bel kb)
              clear kb CT g0 g1 g2 P3
              by_cases hc : m ≤ (C : Int)
              · have HE := Lib.hid (AW3.out.2.1 HB.out (by show m ≤ (cnt l x1 x2 x3 : Int); rw [HC.out]; exact hc))
                clear AW3
                go_wp2_with fail
                go_ret2
                exact FIN.out _ 22 K4.out HE.out (by decide)
              · have hcn : ¬ m ≤ ((cnt l (x1, x2, x3, x4).1 (x1, x2, x3, x4).2.1 (x1, x2, x3, x4).2.2.1 : Nat) : Int) := by show ¬ m ≤ (cnt l x1 x2 x3 : Int); rw [HC.out]; exact hc
                by_cases hl : n = 4096
                · have HE := Lib.hid (AW3.out.2.2.1 HB.out (by first | exact hcn | exact Int.not_le.1 hcn) (HLN.out.trans hl))
                  have hl3 : ((4096 : Int) ≤ (n : Int)) := by omega
                  clear AW3 hcn
                  go_wp2_with fail
                  go_ret2
                  exact FIN.out _ 4 K4.out HE.out (by decide)
                · have HE := Lib.hid (AW3.out.2.2.2 HB.out (by first | exact hcn | exact Int.not_le.1 hcn) (by rw [HLN.out]; exact hl))
                  have hl3 : ¬ ((4096 : Int) ≤ (n : Int)) := by have := (chk_ok.1 HE1.out).1; have := HLN.out; omega
                  clear AW3 hcn
                  go_upto_region 12 with fail
                  have CP := Lib.hid (fun V (hv : Bel w4 V) => copy (some ⟨b, o, none⟩) n c l V (HI.out.bel (K4.out.trans hv)) (by omega))
                  refine wp_region_held_drew (S := fun Vx => Bel w4 Vx) (by kernel_rfl) (Bel.refl _).drew (fun hS0 => ?_)
                  obtain ⟨w6, hw6⟩ : ∃ w6, World.drew w4 = w6 := ⟨_, rfl⟩
                  rw [hw6] at hS0 ⊢
                  clear hw6
                  have H46 := Lib.hid hS0
                  refine wpAnyH_take (i := 0) (oi := { dst := some 62, op := .move (.tmp 0), type := 22, pos := "ref.go:68", after := #[], guard := none }) (v := .slice (some ⟨b, o, none⟩) n c) rfl (by kernel_rfl) (by kernel_rfl) (by kernel_rfl) (fun _ _ _ h => h) (Or.inl ⟨by rfl, by intro w hSw; clear hSw; go_simp⟩) hS0 ?_
                  try simp only [Act.put, List.setIfInBounds_toArray, List.set_cons_zero, List.set_cons_succ]
                  refine wpAnyH_take (i := 2) (oi := { dst := some 64, op := .load 24 (.tmp 4), type := 24, pos := "ref.go:68", after := #[], guard := none }) (v := .agg #[.int .i64 x1, .int .i64 x2, .int .i64 x3, .int .i64 x4]) rfl (by kernel_rfl) (by kernel_rfl) (by kernel_rfl) (fun _ _ _ h => h) (yieldsIf_load_mid (by rfl) _ _ rfl _ _ rfl _ _ (fun w h => rng_bel (rngB (C := [.int .i64 x1, .int .i64 x2, .int .i64 x3, .int .i64 x4]) P4.out) h) Try.underlying24 rfl info_h) hS0 ?_
                  try simp only [Act.put, List.setIfInBounds_toArray, List.set_cons_zero, List.set_cons_succ]
                  refine wpAnyH_ready (rs := [1, 3]) (by kernel_rfl) (by simp) ?_
                  refine AllReadyH.cons (o := { dst := some 63, op := .call { callee := .value (.func 10), args := #[.tmp 62], argTypes := #[22] }, type := 22, pos := "ref.go:68", after := #[{ on := 0, ground := .data }], guard := none }) rfl (fun K hK => ?_) (AllReadyH.cons (o := { dst := some 65, op := .buildSlice 22 1 #[(0, .tmp 64)], type := 22, pos := "ref.go:68", after := #[{ on := 2, ground := .data }], guard := none }) rfl (fun K hK => ?_) AllReadyH.nil)
                  · go_simp
                    refine (CP.out _ hS0).mono ?_
                    rintro e v1 ⟨vv, rfl, ho, kb⟩
                    go_wp2_with fail
                    refine hK.out _ _ (hS0.trans kb) (fun hS1 => ?_)
                    clear hK K
                    try simp only [Act.put, List.setIfInBounds_toArray, List.set_cons_zero, List.set_cons_succ]
                    refine wpAnyH_ready (rs := [3]) (by kernel_rfl) (by simp) ?_
                    refine AllReadyH.cons (o := { dst := some 65, op := .buildSlice 22 1 #[(0, .tmp 64)], type := 22, pos := "ref.go:68", after := #[{ on := 2, ground := .data }], guard := none }) rfl (fun K hK => ?_) AllReadyH.nil
                    go_simp
                    refine hK.out _ _ (hS1.alloc _) (fun hS2 => ?_)
                    clear hK K
                    try simp only [Act.put, List.setIfInBounds_toArray, List.set_cons_zero, List.set_cons_succ]
                    have gbb := Blk.new v1 #[.int .i64 x1, .int .i64 x2, .int .i64 x3, .int .i64 x4] 24
                    have gbl := Lib.hid (Below.size hS1)
                    generalize hvq : World.alloc v1 (Obj.cells #[.int .i64 x1, .int .i64 x2, .int .i64 x3, .int .i64 x4] 24) = v2 at gbb hS2 ⊢
                    have gbk : Bel v1 v2 := by rw [← hvq]; exact (Bel.refl _).alloc _
                    clear hvq
                    obtain ⟨gb, hgq⟩ : ∃ g, (World.heap v1).size = g := ⟨_, rfl⟩
                    rw [hgq] at gbb gbl ⊢
                    clear hgq
                    have gbb := Lib.hid gbb
                    refine wpAnyH_ready (rs := [4]) (by kernel_rfl) (by simp) ?_
                    refine AllReadyH.cons (o := { dst := some 66, op := .call { callee := .builtin .append, args := #[.tmp 63, .tmp 65], argTypes := #[22, 22] }, type := 22, pos := "ref.go:68", after := #[{ on := 1, ground := .data }, { on := 3, ground := .data }, { on := 1, ground := .chain }], guard := none }) rfl (fun K hK => ?_) AllReadyH.nil
                    have HO4 := Lib.hid (show OwnH v2 w4.heap.size vv l from by first | exact (ho.bel gbk).mono (Below.size H46.out) | exact ho.mono (Nat.le_trans (Below.size H46.out) (Below.size gbk)))
                    have HX4 := Lib.hid (show Rw.RS hR v2 (some ⟨gb, 0, none⟩) 1 1 [(x1, x2, x3, x4)] from by first | exact Rw.rs_one hR gbb.out | exact Rw.rs_one hR (gbb.out.bel kb))
                    obtain ⟨v9, W9, hAP, hOW, hgr⟩ := Rw.run_append_R hR 22 22 24 underH zero_h rfl (by decide) HO4.out HX4.out (by omega) (by have := HLN.out; omega) (Below.size (show Bel w4 v2 from hS2))
                    have HB9 := Lib.hid (show Bel w4 W9 from Kk.Bel.grown hS2 hgr (fun k hk => (HO4.out.lt k hk).1))
                    have HAP := Lib.hid hAP
                    have HOW := Lib.hid hOW
                    clear hAP hOW hgr
                    refine Rw.step_append_run rfl (.tmp 63) (.tmp 65) 22 22 rfl _ _ (by simp [Act.eval, Act.put]) (by simp [Act.eval, Act.put]) HAP.out ?_
                    refine hK.out _ _ (HB9.out) (fun hS3 => ?_)
                    clear hK K
                    try simp only [Act.put, List.setIfInBounds_toArray, List.set_cons_zero, List.set_cons_succ]
                    refine wpAnyH_take (i := 5) (oi := { dst := some 6, op := .assign (.tmp 66), type := 22, pos := "ref.go:68", after := #[{ on := 4, ground := .data }, { on := 4, ground := .chain }, { on := 0, ground := .phase }, { on := 1, ground := .phase }, { on := 2, ground := .phase }, { on := 3, ground := .phase }, { on := 4, ground := .phase }], guard := none }) (v := v9) rfl (by kernel_rfl) (by kernel_rfl) (by kernel_rfl) (fun _ _ _ h => h) (Or.inl ⟨by rfl, by intro w hSw; clear hSw; go_simp⟩) hS3 ?_
                    try simp only [Act.put, List.setIfInBounds_toArray, List.set_cons_zero, List.set_cons_succ]
                    refine wpAnyH_take (i := 6) (oi := { dst := some 7, op := .assign (.const (Value.int IntKind.i64 0)), type := 27, pos := "ref.go:68", after := #[{ on := 5, ground := .chain }, { on := 0, ground := .phase }, { on := 1, ground := .phase }, { on := 2, ground := .phase }, { on := 3, ground := .phase }, { on := 4, ground := .phase }, { on := 5, ground := .phase }], guard := none }) (v := .int .i64 0) rfl (by kernel_rfl) (by kernel_rfl) (by kernel_rfl) (fun _ _ _ h => h) (Or.inl ⟨by rfl, by intro w hSw; clear hSw; go_simp⟩) hS3 ?_
                    try simp only [Act.put, List.setIfInBounds_toArray, List.set_cons_zero, List.set_cons_succ]
                    refine wpAnyH_done (by kernel_rfl) ?_ _
                    go_wp2_with fail
                    go_ret2
                    refine ⟨_, by rw [HE.out]; rfl, ?_, K4.out.trans HB9.out⟩
                    rw [addL_eq HE.out]
                    exact HOW.out.mono (Below.size K4.out)
                  · go_simp
                    refine hK.out _ _ (hS0.alloc _) (fun hS1 => ?_)
                    clear hK K
                    try simp only [Act.put, List.setIfInBounds_toArray, List.set_cons_zero, List.set_cons_succ]
                    have gbb := Blk.new w6 #[.int .i64 x1, .int .i64 x2, .int .i64 x3, .int .i64 x4] 24
                    have gbl := Lib.hid (Below.size hS0)
                    generalize hvq : World.alloc w6 (Obj.cells #[.int .i64 x1, .int .i64 x2, .int .i64 x3, .int .i64 x4] 24) = v1 at gbb hS1 ⊢
                    have gbk : Bel w6 v1 := by rw [← hvq]; exact (Bel.refl _).alloc _
                    clear hvq
                    obtain ⟨gb, hgq⟩ : ∃ g, (World.heap w6).size = g := ⟨_, rfl⟩
                    rw [hgq] at gbb gbl ⊢
                    clear hgq
                    have gbb := Lib.hid gbb
                    refine wpAnyH_ready (rs := [1]) (by kernel_rfl) (by simp) ?_
                    refine AllReadyH.cons (o := { dst := some 63, op := .call { callee := .value (.func 10), args := #[.tmp 62], argTypes := #[22] }, type := 22, pos := "ref.go:68", after := #[{ on := 0, ground := .data }], guard := none }) rfl (fun K hK => ?_) AllReadyH.nil
                    go_simp
                    refine (CP.out _ hS1).mono ?_
                    rintro e v2 ⟨vv, rfl, ho, kb⟩
                    go_wp2_with fail
                    refine hK.out _ _ (hS1.trans kb) (fun hS2 => ?_)
                    clear hK K
                    try simp only [Act.put, List.setIfInBounds_toArray, List.set_cons_zero, List.set_cons_succ]
                    refine wpAnyH_ready (rs := [4]) (by kernel_rfl) (by simp) ?_
                    refine AllReadyH.cons (o := { dst := some 66, op := .call { callee := .builtin .append, args := #[.tmp 63, .tmp 65], argTypes := #[22, 22] }, type := 22, pos := "ref.go:68", after := #[{ on := 1, ground := .data }, { on := 3, ground := .data }, { on := 1, ground := .chain }], guard := none }) rfl (fun K hK => ?_) AllReadyH.nil
                    have HO4 := Lib.hid (show OwnH v2 w4.heap.size vv l from by first | exact (ho.bel gbk).mono (Below.size H46.out) | exact ho.mono (Nat.le_trans (Below.size H46.out) (Below.size gbk)))
                    have HX4 := Lib.hid (show Rw.RS hR v2 (some ⟨gb, 0, none⟩) 1 1 [(x1, x2, x3, x4)] from by first | exact Rw.rs_one hR gbb.out | exact Rw.rs_one hR (gbb.out.bel kb))
                    obtain ⟨v9, W9, hAP, hOW, hgr⟩ := Rw.run_append_R hR 22 22 24 underH zero_h rfl (by decide) HO4.out HX4.out (by omega) (by have := HLN.out; omega) (Below.size (show Bel w4 v2 from hS2))
                    have HB9 := Lib.hid (show Bel w4 W9 from Kk.Bel.grown hS2 hgr (fun k hk => (HO4.out.lt k hk).1))
                    have HAP := Lib.hid hAP
                    have HOW := Lib.hid hOW
                    clear hAP hOW hgr
                    refine Rw.step_append_run rfl (.tmp 63) (.tmp 65) 22 22 rfl _ _ (by simp [Act.eval, Act.put]) (by simp [Act.eval, Act.put]) HAP.out ?_
                    refine hK.out _ _ (HB9.out) (fun hS3 => ?_)
                    clear hK K
                    try simp only [Act.put, List.setIfInBounds_toArray, List.set_cons_zero, List.set_cons_succ]
                    refine wpAnyH_take (i := 5) (oi := { dst := some 6, op := .assign (.tmp 66), type := 22, pos := "ref.go:68", after := #[{ on := 4, ground := .data }, { on := 4, ground := .chain }, { on := 0, ground := .phase }, { on := 1, ground := .phase }, { on := 2, ground := .phase }, { on := 3, ground := .phase }, { on := 4, ground := .phase }], guard := none }) (v := v9) rfl (by kernel_rfl) (by kernel_rfl) (by kernel_rfl) (fun _ _ _ h => h) (Or.inl ⟨by rfl, by intro w hSw; clear hSw; go_simp⟩) hS3 ?_
                    try simp only [Act.put, List.setIfInBounds_toArray, List.set_cons_zero, List.set_cons_succ]
                    refine wpAnyH_take (i := 6) (oi := { dst := some 7, op := .assign (.const (Value.int IntKind.i64 0)), type := 27, pos := "ref.go:68", after := #[{ on := 5, ground := .chain }, { on := 0, ground := .phase }, { on := 1, ground := .phase }, { on := 2, ground := .phase }, { on := 3, ground := .phase }, { on := 4, ground := .phase }, { on := 5, ground := .phase }], guard := none }) (v := .int .i64 0) rfl (by kernel_rfl) (by kernel_rfl) (by kernel_rfl) (fun _ _ _ h => h) (Or.inl ⟨by rfl, by intro w hSw; clear hSw; go_simp⟩) hS3 ?_
                    try simp only [Act.put, List.setIfInBounds_toArray, List.set_cons_zero, List.set_cons_succ]
                    refine wpAnyH_done (by kernel_rfl) ?_ _
                    go_wp2_with fail
                    go_ret2
                    refine ⟨_, by rw [HE.out]; rfl, ?_, K4.out.trans HB9.out⟩
                    rw [addL_eq HE.out]
                    exact HOW.out.mono (Below.size K4.out)
  · have HE := Lib.hid (AW.out.1 h0)
    have hne : (e1 != 0) = true := by rw [bne_iff_ne]; exact h0
    have H0 := Lib.hid h0
    clear h0
    go_wp2_with fail
    go_ret2
    exact FIN.out _ e1 K1.out HE.out H0.out
end Hp
end Go.Proofs.Ytahhnfnonekbmaa
