/-
  Texts of this claim, put together: Qu13, Qu14, Qu15. What each one says, and under which conditions, stands ahead of it.
-/
import Derived.Test.YtdpompponngmdaaQA
import Derived.Test.YtdpompponngmdaaGRwF
import Derived.Test.YtdpompponngmdaaGQu5
import Derived.Test.YtdpompponngmdaaGQu3

section
/-
  What the reference's Ripe tells: two lists in memory of their own. Conditions: at most a million entries; the Balances are words.
-/
namespace Go.Proofs.Ytdpompponngmdaa
open Go.RowKit Go.Shelf
set_option linter.unusedVariables false
set_option linter.unusedSimpArgs false
namespace Qu
open Kk Pm

theorem into_next {l : List E8} {k : Nat} {r : E8} (hr : l[k]? = some r) (p : E8 → Bool) : (l.take (k + 1)).filter p = (l.take k).filter p ++ if p r = true then [r] else [] := by
  rw [List.take_add_one, hr, List.filter_append]
  congr 1
  show List.filter p [r] = _
  by_cases hq : p r = true <;> simp [hq]
theorem rip_ways (l : List E8) (h u : Int) : ((chk l).1 ≠ 0 → ripE l h u = (chk l).1) ∧ ((chk l).1 = 0 → ¬ (1 ≤ h ∧ h ≤ 4294967296 ∧ 1 ≤ u ∧ u ≤ 1048576) → ripE l h u = 3) ∧ ((chk l).1 = 0 → (1 ≤ h ∧ h ≤ 4294967296 ∧ 1 ≤ u ∧ u ≤ 1048576) → ripE l h u = 0) := by
  unfold ripE
  refine ⟨fun h => if_pos h, fun h1 h2 => ?_, fun h1 h2 => ?_⟩
  · rw [if_neg (by rw [h1]; decide), if_pos h2]
  · rw [if_neg (by rw [h1]; decide), if_neg (fun h => h h2)]
theorem rip_nil {l : List E8} {h u : Int} (h0 : ripE l h u ≠ 0) : ripL l h u = [] ∧ lftL l h u = [] := ⟨if_neg h0, if_neg h0⟩
theorem rip_next {l : List E8} {k : Nat} {r : E8} (hr : l[k]? = some r) (m : Int) : (cr r ≤ m → rip (l.take (k + 1)) m = rip (l.take k) m ++ [r] ∧ lft (l.take (k + 1)) m = lft (l.take k) m) ∧ (m < cr r → rip (l.take (k + 1)) m = rip (l.take k) m ∧ lft (l.take (k + 1)) m = lft (l.take k) m ++ [r]) := by
  have e1 := into_next hr (fun r => decide (cr r ≤ m))
  have e2 := into_next hr (fun r => decide (m < cr r))
  refine ⟨fun h => ⟨e1.trans ?_, e2.trans ?_⟩, fun h => ⟨e1.trans ?_, e2.trans ?_⟩⟩
  · rw [if_pos (decide_eq_true h)]; rfl
  · rw [if_neg (by simp; omega), List.append_nil]; rfl
  · rw [if_neg (by simp; omega), List.append_nil]; rfl
  · rw [if_pos (decide_eq_true h)]; rfl
set_option maxRecDepth 100000 in
set_option maxHeartbeats 16000000 in
theorem ripeR (A : Option Addr) (n c : Nat) (l : List E8) (h u : Int) (w : World) (hi : Rw.RS eR w A n c l) (hn : n ≤ 1000000) (hw : Wd l) :
    Calls Try.prog 19 #[.slice A n c, .int .i64 h, .int .i64 u] w fun e w' => ∃ v1 v2, e = .returned (.tuple #[v1, v2, .int .i64 (ripE l h u)]) ∧ OwnE w' w.heap.size v1 (ripL l h u) ∧ OwnE w' w.heap.size v2 (lftL l h u) ∧ Bel w w' := by
  have HR := Lib.hid hi
  have HLN := Lib.hid hi.len
  have CK := Lib.hid (checkR A n c l w hi (by omega) hw)
  have HP := Lib.hid (fun V => heightR h V)
  have RW_ := Lib.hid (rip_ways l h u)
  obtain ⟨e1, he1⟩ : ∃ e, (chk l).1 = e := ⟨_, rfl⟩
  obtain ⟨e2, he2⟩ : ∃ e, (chk l).2 = e := ⟨_, rfl⟩
  have HE1 := Lib.hid he1
  rw [he1, he2] at CK
  rw [he1] at RW_
  clear hi he1 he2
  have FIN : ∀ (W : World) (x : Int), Bel w W → ripE l h u = x → x ≠ 0 → ∃ v1 v2, Ending.returned (.tuple #[.slice none 0 0, .slice none 0 0, .int .i64 x]) = .returned (.tuple #[v1, v2, .int .i64 (ripE l h u)]) ∧ OwnE W w.heap.size v1 (ripL l h u) ∧ OwnE W w.heap.size v2 (lftL l h u) ∧ Bel w W := fun W x hb he hx => by
    obtain ⟨q1, q2⟩ := rip_nil (l := l) (h := h) (u := u) (by rw [he]; exact hx)
    exact ⟨_, _, by rw [he], by rw [q1]; exact Rw.OwnR.nil_ _ _ _ _, by rw [q2]; exact Rw.OwnR.nil_ _ _ _ _, hb⟩
  have FIN := Lib.hid FIN
  go_enter Try.func19, Try.ntmps19
  go_wp2_with fail
  refine CK.out.mono ?_
  rintro e w1 ⟨rfl, kb⟩
  have K1 := Lib.hid kb
  clear kb CK
  by_cases h0 : e1 = 0
  · subst h0
    have hR2 := RW_.out.2
    by_cases hb1 : 1 ≤ h ∧ h ≤ 4294967296
    · by_cases hp1 : 1 ≤ u
      · by_cases hp2 : u ≤ 1048576
        · have ip := HP.out w1
          rw [decide_eq_true hb1] at ip
          have HE := Lib.hid (hR2.2 rfl ⟨hb1.1, hb1.2, hp1, hp2⟩)
          have HOK := Lib.hid (chk_ok.1 HE1.out)
          have hb3 : ¬ u < 1 := by omega
          have hb4 : ¬ 1048576 < u := by omega
          have HU := Lib.hid (And.intro hp1 hp2)
          clear hR2 RW_ hp1 hp2 FIN hb1
          go_wp2_with fail
          refine ip.mono ?_
          rintro e w2 ⟨rfl, rfl⟩
          clear ip
          go_wp2_with fail
          go_loopw [6, 7, 11] (fun s11 s12 s13 wr => ∃ k : Nat, k ≤ n ∧ s13 = .int .i64 k ∧ Hid (OwnE wr w.heap.size s11 (rip (l.take k) (h - u))) ∧ Hid (OwnE wr w.heap.size s12 (lft (l.take k) (h - u))) ∧ Hid (∀ i, s11.ownBlock = some i → s12.ownBlock ≠ some i) ∧ Hid (Bel w wr)) (fun _ _ s13 _ => n - (intOf s13).toNat)
          case atStart => exact ⟨0, Nat.zero_le _, rfl, Lib.hid (Rw.OwnR.nil_ _ _ _ _), Lib.hid (Rw.OwnR.nil_ _ _ _ _), Lib.hid (fun i h => by cases h), K1⟩
          case round =>
            obtain ⟨k, hk, rfl, h1, h2, HAP, HBE⟩ := hrel
            by_cases hlt : k < n
            · obtain ⟨⟨r1, r2, r3, r4, r5, r6, r7, r8⟩, hr⟩ := HR.out.get hlt
              obtain ⟨b, q, rfl, hb, hrow⟩ := (HR.out.bel HBE.out).at hlt hr
              have HNX := Lib.hid (rip_next hr (h - u))
              have HLE := Lib.hid (show (rip (l.take k) (h - u)).length ≤ k ∧ (lft (l.take k) (h - u)).length ≤ k from ⟨Nat.le_trans (List.length_filter_le _ _) (by rw [List.length_take]; omega), Nat.le_trans (List.length_filter_le _ _) (by rw [List.length_take]; omega)⟩)
              have HB := Lib.hid (show 1 ≤ r6 ∧ r6 ≤ 4294967296 from may_cr (srt_le l 0 HOK.out.2.1 _ (List.mem_of_getElem? hr)).1)
              have hwr : IntKind.i64.wrap (r6 + u) = r6 + u := IntWalk.i64_in _ (by have := HB.out; have := HU.out; omega)
              have hlt3 : (k : Int) < n := by omega
              have hlt0 : (0 : Int) ≤ k := by omega
              obtain ⟨c0, c1, c2, c3, c4, c5, c6, c7⟩ := rng8 (show wr.rangeAt b (q + k * 8) [.int .i64 r1, .int .i64 r2, .int .i64 r3, .int .i64 r4, .int .i64 r5, .int .i64 r6, .int .u64 r7, .int .u64 r8] from hrow)
              have HX := Lib.hid (Rw.rs_one eR (r := (r1, r2, r3, r4, r5, r6, r7, r8)) (Blk.new wr #[.int .i64 r1, .int .i64 r2, .int .i64 r3, .int .i64 r4, .int .i64 r5, .int .i64 r6, .int .u64 r7, .int .u64 r8] 27))
              have HSZ := Lib.hid (Below.size HBE.out)
              have h1_ := h1
              have h2_ := h2
              clear hr hrow
              by_cases hq : r6 + u ≤ h
              · have HN := Lib.hid (HNX.out.1 (show r6 ≤ h - u by omega))
                clear HNX
                have HOA := Lib.hid (h1.out.bel ((Bel.refl wr).alloc (.cells #[.int .i64 r1, .int .i64 r2, .int .i64 r3, .int .i64 r4, .int .i64 r5, .int .i64 r6, .int .u64 r7, .int .u64 r8] 27)))
                have HTA := Lib.hid (h2.out.bel ((Bel.refl wr).alloc (.cells #[.int .i64 r1, .int .i64 r2, .int .i64 r3, .int .i64 r4, .int .i64 r5, .int .i64 r6, .int .u64 r7, .int .u64 r8] 27)))
                go_wp2_with (at_builtin; refine Rw.wpList_append_lies eR rfl _ _ _ 27 rfl underE zero_E rfl (by decide) w.heap.size _ (rip (l.take k) (h - u)) rfl HOA.out (some ⟨wr.heap.size, 0, none⟩) 1 1 [(r1, r2, r3, r4, r5, r6, r7, r8)] rfl HX.out (by omega) (by have := HLE.out; omega) (by have := HSZ.out; simp; omega) ?_; intro g cap w1 hown' hgrow hlie hlt1)
                have hgrow : World.grownBy _ w1 (Value.ownBlock u6) := hgrow
                have hlie : Value.ownBlock u6 = some g ∨ g = (World.heap (wr.alloc (.cells #[.int .i64 r1, .int .i64 r2, .int .i64 r3, .int .i64 r4, .int .i64 r5, .int .i64 r6, .int .u64 r7, .int .u64 r8] 27))).size := hlie
                have HO2 := Lib.hid hown'
                have HB2 := Lib.hid (show Bel w w1 from Kk.Bel.grown (HBE.out.alloc _) hgrow (fun k hk => (HOA.out.lt k hk).1))
                have HT2 := Lib.hid (show OwnE w1 w.heap.size _ _ from HTA.out.kept hgrow (by
                  rcases hx : Value.ownBlock u7 with _ | i
                  · exact .inl rfl
                  · exact .inr (fun e => HAP.out i e.symm hx)))
                have HA2 := Lib.hid (show ∀ i, (Value.slice (some ⟨g, 0, none⟩) ((rip (l.take k) (h - u)).length + 1) cap).ownBlock = some i → u7.ownBlock ≠ some i from fun i h1 h2 => by
                  obtain rfl : g = i := Option.some.inj h1
                  rcases hlie with h3 | h3
                  · exact HAP.out g h3 h2
                  · have := (h2_.out.lt g h2).2
                    rw [World.size_alloc] at h3
                    omega)
                clear hown' hgrow hlie
                go_wp2_with fail
                go_roundw
                case rel => exact ⟨k + 1, by omega, by go_num, Lib.hid (by rw [HN.out.1]; exact HO2.out), Lib.hid (by rw [HN.out.2]; exact HT2.out), HA2, HB2⟩
                case measure => simp [intOf]; omega
              · have HN := Lib.hid (HNX.out.2 (show h - u < r6 by omega))
                clear HNX
                have HOA := Lib.hid (h2.out.bel ((Bel.refl wr).alloc (.cells #[.int .i64 r1, .int .i64 r2, .int .i64 r3, .int .i64 r4, .int .i64 r5, .int .i64 r6, .int .u64 r7, .int .u64 r8] 27)))
                have HTA := Lib.hid (h1.out.bel ((Bel.refl wr).alloc (.cells #[.int .i64 r1, .int .i64 r2, .int .i64 r3, .int .i64 r4, .int .i64 r5, .int .i64 r6, .int .u64 r7, .int .u64 r8] 27)))
                go_wp2_with (at_builtin; refine Rw.wpList_append_lies eR rfl _ _ _ 27 rfl underE zero_E rfl (by decide) w.heap.size _ (lft (l.take k) (h - u)) rfl HOA.out (some ⟨wr.heap.size, 0, none⟩) 1 1 [(r1, r2, r3, r4, r5, r6, r7, r8)] rfl HX.out (by omega) (by have := HLE.out; omega) (by have := HSZ.out; simp; omega) ?_; intro g cap w1 hown' hgrow hlie hlt1)
                have hgrow : World.grownBy _ w1 (Value.ownBlock u7) := hgrow
                have hlie : Value.ownBlock u7 = some g ∨ g = (World.heap (wr.alloc (.cells #[.int .i64 r1, .int .i64 r2, .int .i64 r3, .int .i64 r4, .int .i64 r5, .int .i64 r6, .int .u64 r7, .int .u64 r8] 27))).size := hlie
                have HO2 := Lib.hid hown'
                have HB2 := Lib.hid (show Bel w w1 from Kk.Bel.grown (HBE.out.alloc _) hgrow (fun k hk => (HOA.out.lt k hk).1))
                have HT2 := Lib.hid (show OwnE w1 w.heap.size _ _ from HTA.out.kept hgrow (by
                  rcases hx : Value.ownBlock u6 with _ | i
                  · exact .inl rfl
                  · exact .inr (fun e => HAP.out i hx e.symm)))
                have HA2 := Lib.hid (show ∀ i, u6.ownBlock = some i → (Value.slice (some ⟨g, 0, none⟩) ((lft (l.take k) (h - u)).length + 1) cap).ownBlock ≠ some i from fun i h1 h2 => by
                  obtain rfl : g = i := Option.some.inj h2
                  rcases hlie with h3 | h3
                  · exact HAP.out g h1 h3
                  · have := (h1_.out.lt g h1).2
                    rw [World.size_alloc] at h3
                    omega)
                clear hown' hgrow hlie
                go_wp2_with fail
                go_roundw
                case rel => exact ⟨k + 1, by omega, by go_num, Lib.hid (by rw [HN.out.1]; exact HT2.out), Lib.hid (by rw [HN.out.2]; exact HO2.out), HA2, HB2⟩
                case measure => simp [intOf]; omega
            · obtain rfl : k = n := by omega
              have HL := Lib.hid (show l.take k = l from List.take_of_length_le (by rw [HLN.out]; exact Nat.le_refl _))
              rw [HL.out] at h1 h2
              have E1 := Lib.hid (show ripL l h u = rip l (h - u) from if_pos HE.out)
              have E2 := Lib.hid (show lftL l h u = lft l (h - u) from if_pos HE.out)
              go_wp2_with fail
              go_ret3
              exact ⟨_, _, by rw [HE.out]; rfl, by rw [E1.out]; exact h1.out, by rw [E2.out]; exact h2.out, HBE.out⟩
        · have ip := HP.out w1
          rw [decide_eq_true hb1] at ip
          have HE := Lib.hid (hR2.1 rfl (fun h => hp2 h.2.2.2))
          have hb3 : ¬ u < 1 := by omega
          have hb4 : 1048576 < u := by omega
          clear hR2 RW_ hb1 hp1 hp2
          go_wp2_with fail
          refine ip.mono ?_
          rintro e w2 ⟨rfl, rfl⟩
          clear ip
          go_wp2_with fail
          go_ret3
          exact FIN.out _ 3 K1.out HE.out (by decide)
      · have ip := HP.out w1
        rw [decide_eq_true hb1] at ip
        have HE := Lib.hid (hR2.1 rfl (fun h => hp1 h.2.2.1))
        have hb3 : u < 1 := by omega
        clear hR2 RW_ hb1 hp1
        go_wp2_with fail
        refine ip.mono ?_
        rintro e w2 ⟨rfl, rfl⟩
        clear ip
        go_wp2_with fail
        go_ret3
        exact FIN.out _ 3 K1.out HE.out (by decide)
    · have ip := HP.out w1
      rw [decide_eq_false hb1] at ip
      have HE := Lib.hid (hR2.1 rfl (fun h => hb1 ⟨h.1, h.2.1⟩))
      clear hR2 RW_ hb1
      go_wp2_with fail
      refine ip.mono ?_
      rintro e w2 ⟨rfl, rfl⟩
      clear ip
      go_wp2_with fail
      go_ret3
      exact FIN.out _ 3 K1.out HE.out (by decide)
  · have HE := Lib.hid (RW_.out.1 h0)
    have hne : (e1 != 0) = true := by rw [bne_iff_ne]; exact h0
    have H0 := Lib.hid h0
    clear h0
    go_wp2_with fail
    go_ret3
    exact FIN.out _ _ K1.out HE.out H0.out
end Qu
end Go.Proofs.Ytdpompponngmdaa
end

section
/-
  What queue.Ripe answers of any queue. Conditions: at most a million entries; Balances are words.
-/
namespace Go.Proofs.Ytdpompponngmdaa
open Go.RowKit Go.Shelf
set_option linter.unusedVariables false
set_option linter.unusedSimpArgs false
namespace Qu
open Kk Pm
theorem bel_drewN (w : World) (n : Nat) : Bel w (w.drewN n) := ⟨rfl, rfl, rfl, Nat.le_refl _, fun _ _ => rfl⟩

theorem clone (A : Option Addr) (n c : Nat) (l : List E8) (w : World) (hi : Rw.RS eR w A n c l) (hn : n ≤ 1000000000) :
    Calls Try.prog 51 #[.slice A n c] w fun e w' => ∃ v, e = .returned v ∧ OwnE w' w.heap.size v l ∧ Bel w w' := by
  have qT : ∀ (w : World) (a : Option Addr) (n c n' c' : Nat), (binOp .eql 22 (.slice a n c) (.slice none n' c')).run Try.prog w = .ok (.bool a.isNone) w := fun w a n c n' c' => Lib.run_eql_slice_nil w _ _ a n c n' c' Try.underlying22
  cases A with
  | none =>
    obtain rfl : c = 0 := hi.nil rfl
    obtain rfl : n = 0 := by have := hi.cap; omega
    have hz : l = [] := List.length_eq_zero_iff.1 hi.len
    subst hz
    clear hi
    go_enter Try.func51, Try.ntmps51
    go_wp2
    go_ret
    exact ⟨_, rfl, Rw.OwnR.nil_ _ _ _ _, Bel.refl _⟩
  | some ad =>
    have HS := Lib.hid (hi.bel ((Bel.refl w).alloc (.cells #[] 27)))
    have HE := Lib.hid (Rw.own_empty eR 27 w)
    clear hi
    go_enter Try.func51, Try.ntmps51
    go_wp2_with (at_builtin; refine Rw.append_R eR rfl _ _ _ 27 rfl underE zero_E rfl (by decide) w.heap.size _ [] rfl HE.out (some ad) n c l rfl HS.out (by simp; omega) (by simp) ?_; intro v' w1 hown' hgrow)
    have HO := Lib.hid hown'
    have hb : Bel w w1 := Kk.Bel.grown ((Bel.refl w).alloc _) hgrow (fun k hk => (HE.out.lt k hk).1)
    clear hown' hgrow
    go_wp2
    go_ret
    exact ⟨_, rfl, HO.out, hb⟩
theorem sliced_zero (A : Option Addr) (n s : Nat) : sliced A 0 n n s = .slice A n n := by
  unfold sliced
  by_cases h : n = 0
  · subst h; simp
  · rw [if_neg h]
    cases A with
    | none => simp
    | some a => simp [Addr.add]
theorem elemE : Try.prog.elem 22 = 27 := by kernel_rfl
theorem sizeE (w : World) : (sizeOf 27).run Try.prog w = .ok 8 w := by kernel_rfl
theorem slice_full (A : Option Addr) (n c : Nat) (hc : n ≤ c) (w : World) : (Instr.slice 22 (.slice A n c) none (some (.int .i64 (n : Int))) (some (.int .i64 (n : Int)))).run Try.prog w = .ok (.slice A n n) w := by
  rw [run_slice_hm (P := Try.prog) (w := w) (t := 22) (a := A) (len := n) (cap := c) (by rw [elemE]; exact underE) .i64 .i64 n n (by omega) (by omega) (by omega), elemE]
  simp [sizeE, Result.andThen, sliced_zero]

theorem slice_k (A : Option Addr) (n c k : Nat) (hk : k ≤ c) (w : World) : (Instr.slice 22 (.slice A n c) none (some (.int .i64 (k : Int))) (some (.int .i64 (k : Int)))).run Try.prog w = .ok (.slice A k k) w := by
  rw [run_slice_hm (P := Try.prog) (w := w) (t := 22) (a := A) (len := n) (cap := c) (by rw [elemE]; exact underE) .i64 .i64 k k (by omega) (by omega) (by omega), elemE]
  simp [sizeE, Result.andThen, sliced_zero]
theorem slice_l (A : Option Addr) (n c k : Nat) (hk : k ≤ n) (hc : n ≤ c) (w : World) : (Instr.slice 22 (.slice A n c) (some (.int .i64 (k : Int))) none none).run Try.prog w = .ok (.slice (if c = k then A else A.map (fun a => a.add (k * 8))) (n - k) (c - k)) w := by
  rw [run_slice_l (P := Try.prog) (w := w) (t := 22) (a := A) (len := n) (cap := c) (by rw [elemE]; exact underE) .i64 k (by omega) (by omega), elemE]
  simp [sizeE, Result.andThen, sliced]
set_option maxRecDepth 100000 in
set_option maxHeartbeats 2000000 in
theorem ripe1 (A : Option Addr) (n c k : Nat) (l : List E8) (r : E8) (h u : Int) (p3 p4 p5 : Nat) (w : World) (hi : Rw.RS eR w A n c l) (hn : n ≤ 1000000000) (hk : k < n) (hr : l[k]? = some r) (b3 : Blk w p3 #[.slice A n c] 22) (b4 : Blk w p4 #[.int .i64 h] 3) (b5 : Blk w p5 #[.int .i64 u] 3) (hc : 1 ≤ cr r ∧ cr r ≤ 4294967296) (hu : 1 ≤ u ∧ u ≤ 1048576) :
    Calls Try.prog 50 #[.int .i64 k, .pointer (some ⟨p4, 0, none⟩), .pointer (some ⟨p3, 0, none⟩), .pointer (some ⟨p5, 0, none⟩)] w fun e w' => e = .returned (.bool (decide (h - u < cr r))) ∧ Bel w w' := by
  obtain ⟨b, o, rfl, hb, hrow⟩ := hi.at hk hr
  obtain ⟨r1, r2, r3, r4, r5, r6, r7, r8⟩ := r
  obtain ⟨_, _, _, _, _, c5, _, _⟩ := rng8 (show w.rangeAt b (o + k * 8) [.int .i64 r1, .int .i64 r2, .int .i64 r3, .int .i64 r4, .int .i64 r5, .int .i64 r6, .int .u64 r7, .int .u64 r8] from hrow)
  have a3 := b3.cell 0 rfl
  have a4 := b4.cell 0 rfl
  have a5 := b5.cell 0 rfl
  have hc : 1 ≤ r6 ∧ r6 ≤ 4294967296 := hc
  have hw : IntKind.i64.wrap (r6 + u) = r6 + u := IntWalk.i64_in _ (by omega)
  have hk3 : (k : Int) < n := by omega
  have hk0 : (0 : Int) ≤ k := by omega
  have HD := Lib.hid (show decide (h - u < cr (r1, r2, r3, r4, r5, r6, r7, r8)) = decide (h < r6 + u) from by
    show decide (h - u < r6) = _
    rw [Bool.eq_iff_iff, decide_eq_true_iff, decide_eq_true_iff]
    omega)
  clear hrow hi hr hb b3 b4 b5
  go_enter Try.func50, Try.ntmps50
  go_upto_region 1 with fail
  go_quiet (fail)
  go_wp2_with fail
  go_ret
  exact ⟨by rw [HD.out]; rfl, by first | exact Bel.refl _ | exact bel_drewN _ _⟩
theorem half (i j : Nat) (h : i + j ≤ 2000000000) : IntKind.i64.wrap ((i : Int) + (j : Int)) = ((i + j : Nat) : Int) := by rw [IntWalk.i64_in _ (by omega)]; omega
set_option maxRecDepth 100000 in
set_option maxHeartbeats 4000000 in
theorem search (A : Option Addr) (n c : Nat) (l : List E8) (h u : Int) (p3 p4 p5 : Nat) (w : World) (hi : Rw.RS eR w A n c l) (hn : n ≤ 1000000) (b3 : Blk w p3 #[.slice A n c] 22) (b4 : Blk w p4 #[.int .i64 h] 3) (b5 : Blk w p5 #[.int .i64 u] 3) (hc : ∀ r ∈ l, 1 ≤ cr r ∧ cr r ≤ 4294967296) (hu : 1 ≤ u ∧ u ≤ 1048576) (hs : ∀ (i j : Nat) (x y : E8), i ≤ j → l[i]? = some x → l[j]? = some y → cr x ≤ cr y) :
    Calls Try.prog 49 #[.int .i64 n, .func (.func 50) #[] #[.pointer (some ⟨p4, 0, none⟩), .pointer (some ⟨p3, 0, none⟩), .pointer (some ⟨p5, 0, none⟩)]] w fun e w' => ∃ k : Nat, e = .returned (.int .i64 k) ∧ k ≤ n ∧ (∀ (i : Nat) (x : E8), i < k → l[i]? = some x → cr x ≤ h - u) ∧ (∀ (i : Nat) (x : E8), k ≤ i → l[i]? = some x → h - u < cr x) ∧ Bel w w' := by
  have hl : l.length = n := hi.len
  have IL := Lib.hid (fun (q : Nat) (r : E8) (hh : q < n) (hr : l[q]? = some r) V (hv : Bel w V) => ripe1 A n c q l r h u p3 p4 p5 V (hi.bel hv) (by omega) hh hr (b3.bel hv) (b4.bel hv) (b5.bel hv) (hc r (List.mem_of_getElem? hr)) hu)
  have HL := Lib.hid hl
  have HS := Lib.hid hs
  clear hi hl hs b3 b4 b5 hc
  go_enter Try.func49, Try.ntmps49
  go_wp2_with fail
  go_loopw [5, 6] (fun s5 s6 wr => ∃ i j : Nat, s5 = .int .i64 i ∧ s6 = .int .i64 j ∧ i ≤ j ∧ j ≤ n ∧ Hid ((∀ (t : Nat) (x : E8), t < i → l[t]? = some x → cr x ≤ h - u) ∧ (∀ (t : Nat) (x : E8), j ≤ t → l[t]? = some x → h - u < cr x) ∧ Bel w wr)) (fun s5 s6 _ => (intOf s6).toNat - (intOf s5).toNat)
  case atStart => exact ⟨0, n, rfl, rfl, Nat.zero_le _, Nat.le_refl _, Lib.hid ⟨fun t x ht => absurd ht (by omega), fun t x ht hx => by have := (List.getElem?_eq_some_iff.1 hx).1; have := HL.out; omega, Bel.refl _⟩⟩
  case round =>
    obtain ⟨i, j, rfl, rfl, hij, hjn, hh⟩ := hrel
    by_cases hlt : i < j
    · obtain ⟨q, hhd⟩ : ∃ q, (i + j) / 2 = q := ⟨_, rfl⟩
      have hb : i ≤ q ∧ q < j := by omega
      obtain ⟨r, hr⟩ : ∃ r, l[q]? = some r := ⟨_, List.getElem?_eq_getElem (by have := HL.out; omega)⟩
      have CI := Lib.hid (IL.out q r (by omega) hr wr hh.out.2.2)
      obtain ⟨y, hy⟩ : ∃ y, decide (h - u < cr r) = y := ⟨_, rfl⟩
      rw [hy] at CI
      have NX := Lib.hid (show (y = false → ∀ (t : Nat) (x : E8), t < q + 1 → l[t]? = some x → cr x ≤ h - u) ∧ (y = true → ∀ (t : Nat) (x : E8), q ≤ t → l[t]? = some x → h - u < cr x) from ⟨fun e t x ht hx => by
        subst e
        have h1 := of_decide_eq_false hy
        have h2 := HS.out t q x r (by omega) hx hr
        omega, fun e t x ht hx => by
        subst e
        have h1 := of_decide_eq_true hy
        have h2 := HS.out q t r x ht hr hx
        omega⟩)
      have hlt3 : (i : Int) < j := by omega
      have hsum := half i j (by omega)
      have hu : IntKind.u64.wrap ((i + j : Nat) : Int) = ((i + j : Nat) : Int) := IntWalk.u64_in _ (by omega)
      have e2 : ((i : Int) + (j : Int)) / 2 = (q : Int) := by omega
      clear hr hy
      go_upto_region 4 with fail
      try rw [e2]
      clear e2 hsum hu hhd
      go_wp2_with fail
      refine CI.out.mono ?_
      rintro e w1 ⟨rfl, kb⟩
      have K1 := Lib.hid (hh.out.2.2.trans kb)
      clear kb CI
      cases y
      · have N1 := Lib.hid (NX.out.1 rfl)
        clear NX
        go_wp2_with fail
        go_roundw
        case rel => exact ⟨q + 1, j, by go_num, rfl, by omega, hjn, Lib.hid ⟨N1.out, hh.out.2.1, K1.out⟩⟩
        case measure => simp [intOf]; omega
      · have N1 := Lib.hid (NX.out.2 rfl)
        clear NX
        go_wp2_with fail
        go_roundw
        case rel => exact ⟨i, q, rfl, rfl, by omega, by omega, Lib.hid ⟨hh.out.1, N1.out, K1.out⟩⟩
        case measure => simp [intOf]; omega
    · obtain rfl : i = j := by omega
      go_wp2_with fail
      go_ret
      exact ⟨i, rfl, hjn, hh.out.1, fun t x ht hx => hh.out.2.1 t x ht hx, hh.out.2.2⟩
/-- Two halves of one row in new memory. -/
structure Halves (w : World) (base : Nat) (A1 : Option Addr) (n1 c1 : Nat) (A2 : Option Addr) (n2 c2 : Nat) (l1 l2 : List E8) : Prop where
  r1 : Rw.RS eR w A1 n1 c1 l1
  r2 : Rw.RS eR w A2 n2 c2 l2
  g : (n1 = 0 ∧ n2 = 0) ∨ ∃ g cur, base ≤ g ∧ Blk w g cur 27 ∧ (0 < n1 → A1 = some ⟨g, 0, none⟩) ∧ (0 < n2 → A2 = some ⟨g, n1 * 8, none⟩) ∧ (n1 + n2) * 8 ≤ cur.size
section
variable {w w' : World} {base : Nat} {A1 A2 : Option Addr} {n1 c1 n2 c2 : Nat} {l1 l2 : List E8}
theorem Halves.nil_ (w : World) (base : Nat) : Halves w base none 0 0 none 0 0 [] [] := ⟨Rw.RS.nil_, Rw.RS.nil_, .inl ⟨rfl, rfl⟩⟩
theorem Halves.mono (h : Halves w base A1 n1 c1 A2 n2 c2 l1 l2) {b : Nat} (hb : b ≤ base) : Halves w b A1 n1 c1 A2 n2 c2 l1 l2 :=
  ⟨h.r1, h.r2, h.g.imp id fun ⟨g, cur, h1, r⟩ => ⟨g, cur, Nat.le_trans hb h1, r⟩⟩
theorem Halves.kep {S : Nat → Prop} (h : Halves w base A1 n1 c1 A2 n2 c2 l1 l2) (hk : Kep S w w') (hs : ∀ k, base ≤ k → k < w.heap.size → ¬ S k) : Halves w' base A1 n1 c1 A2 n2 c2 l1 l2 := by
  rcases h.g with ⟨h1, h2⟩ | ⟨g, cur, h1, h2, h3, h4, h5⟩
  · exact ⟨h.r1.kep2 hk (fun h0 => absurd h0 (by omega)), h.r2.kep2 hk (fun h0 => absurd h0 (by omega)), .inl ⟨h1, h2⟩⟩
  · have hg := hs g h1 h2.lt
    exact ⟨h.r1.kep2 hk (fun h0 x hx => by rw [h3 h0] at hx; injection hx with hx; rw [← hx]; exact hg), h.r2.kep2 hk (fun h0 x hx => by rw [h4 h0] at hx; injection hx with hx; rw [← hx]; exact hg), .inr ⟨g, cur, h1, h2.kep hk hg, h3, h4, h5⟩⟩
theorem Halves.bel (h : Halves w base A1 n1 c1 A2 n2 c2 l1 l2) (hk : Bel w w') : Halves w' base A1 n1 c1 A2 n2 c2 l1 l2 := h.kep (Kep.of_bel (S := fun _ => False) hk) (fun _ _ _ h => h)
theorem Halves.lay (h : Halves w base A1 n1 c1 A2 n2 c2 l1 l2) : Lay w A1 n1 := fun h0 => by
  rcases h.g with ⟨h1, h2⟩ | ⟨g, cur, h1, h2, h3, h4, h5⟩
  · omega
  · exact ⟨g, 0, cur, h3 h0, h2, by omega⟩
/-- The first half written over leaves the second. -/
theorem Halves.over (h : Halves w base A1 n1 c1 A2 n2 c2 l1 l2) (ho : Ov A1 n1 w w') : Rw.RS eR w' A2 n2 c2 l2 ∧ Lay w' A2 n2 := by
  by_cases h2 : 0 < n2
  · rcases h.g with ⟨_, h3⟩ | ⟨g, cur, h1, hb, h3, h4, h5⟩
    · omega
    · have hA := h4 h2
      have : ∃ cur', Blk w' g cur' 27 ∧ cur'.size = cur.size ∧ ∀ j, n1 * 8 ≤ j → cur'[j]? = cur[j]? := by
        by_cases h0 : 0 < n1
        · obtain ⟨cur', q1, q2, q3⟩ := ho.row g 0 cur h0 (h3 h0) hb
          exact ⟨cur', q1, q2, fun j hj => q3 j (.inr (by omega))⟩
        · exact ⟨cur, hb.kep ho.kep (fun e => h0 e.1), rfl, fun j _ => rfl⟩
      obtain ⟨cur', q1, q2, q3⟩ := this
      refine ⟨⟨h.r2.len, h.r2.cap, h.r2.nil, fun _ => ⟨g, n1 * 8, hA, q1.lt, fun i r hi j v hv => ?_⟩⟩, fun _ => ⟨g, n1 * 8, cur', hA, q1, by omega⟩⟩
      obtain ⟨b, o, e, hlt, hc⟩ := h.r2.row h2
      rw [hA] at e
      injection e with e
      injection e with e1 e2
      subst e1 e2
      have hin : i < n2 := by have := (List.getElem?_eq_some_iff.1 hi).1; have := h.r2.len; omega
      have hj : j < 8 := by have := (List.getElem?_eq_some_iff.1 hv).1; have h8 : (eR.k r).length = 8 := eR.len r; omega
      have h1 := hc i r hi j v hv
      have hidx : n1 * 8 + i * eR.z + j < cur.size := by
        have : eR.z = 8 := rfl
        rw [this]
        omega
      have h2' := hb.cell _ (Array.getElem?_eq_getElem hidx)
      rw [h2'] at h1
      rw [q1.cell _ (by rw [q3 _ (by omega)]; exact Array.getElem?_eq_getElem hidx)]
      exact h1
  · exact ⟨h.r2.kep2 ho.kep (fun h0 => absurd h0 h2), fun h0 => absurd h0 h2⟩
end
/-- What Ripe tells. -/
def RipeR (w w' : World) (l : List E8) (h u : Int) (e : Ending) : Prop :=
  ∃ A1 n1 c1 A2 n2 c2, e = .returned (.tuple #[.slice A1 n1 c1, .slice A2 n2 c2, .int .i64 (ripE l h u)]) ∧ Halves w' w.heap.size A1 n1 c1 A2 n2 c2 (ripL l h u) (lftL l h u) ∧ Bel w w'

theorem own_halves {w : World} {base : Nat} {A : Option Addr} {n c k : Nat} {l : List E8} (h : OwnE w base (.slice A n c) l) (hn : l.length = n) (hk : k ≤ n) : Halves w base A k k (if c = k then A else A.map (fun a => a.add (k * 8))) (n - k) (c - k) (l.take k) (l.drop k) := by
  rcases Nat.eq_zero_or_pos n with h0 | h0
  · obtain ⟨A', c', e, hr, _⟩ := h.rs eR
    injection e with e1 e2 e3
    subst e1 e3
    obtain rfl : k = 0 := by omega
    subst h0
    have hl0 : l = [] := List.length_eq_zero_iff.1 hn
    subst hl0
    refine ⟨⟨rfl, Nat.le_refl _, fun h => rfl, fun h => absurd h (by omega)⟩, ⟨rfl, by omega, fun h => ?_, fun h => absurd h (by omega)⟩, .inl ⟨rfl, rfl⟩⟩
    have : A = none := by
      split at h
      · exact h
      · cases A with
        | none => rfl
        | some a => cases h
    have := hr.nil this
    omega
  · obtain ⟨g, cap, e, hg, hrb, hm⟩ := Rw.rb_own eR h (by omega)
    rw [hn] at e
    injection e with e1 e2 e3
    subst e1 e3
    have hr := hrb.rs
    rw [hn] at hr
    obtain ⟨cur, q1, q2, q3⟩ := hrb.blk
    have hcap := hr.cap
    have h1 := (hr.part hk).cut (c' := k) (Nat.le_refl _) (fun h => by cases h)
    have hQ : k < n → (if c = k then some (⟨g, 0, none⟩ : Addr) else (some (⟨g, 0, none⟩ : Addr)).map (fun a => a.add (k * 8))) = some ⟨g, k * 8, none⟩ := fun hlt => by
      rw [if_neg (by omega), Option.map_some, Rw.add_at, Nat.zero_add]
    refine ⟨h1, ⟨by rw [List.length_drop, hn], by omega, fun h => ?_, fun h2 => ?_⟩, .inr ⟨g, cur, hg, q1, fun _ => rfl, fun h2 => hQ (by omega), by rw [q3]; show (k + (n - k)) * 8 ≤ c * 8; omega⟩⟩
    · split at h <;> cases h
    · refine ⟨g, k * 8, hQ (by omega), q1.lt, fun i r hi => ?_⟩
      rw [List.getElem?_drop] at hi
      obtain ⟨b, o, e, _, hc⟩ := hr.row h0
      injection e with e
      injection e with e1 e2
      subst e1 e2
      have := hc (k + i) r hi
      have hz : eR.z = 8 := rfl
      rw [hz] at this ⊢
      rwa [show k * 8 + i * 8 = 0 + (k + i) * 8 by omega]
end Qu
end Go.Proofs.Ytdpompponngmdaa
end

section
/-
  The program's Ripe: Check, the bounds, a search, a copy in two halves.
-/
namespace Go.Proofs.Ytdpompponngmdaa
open Go.RowKit Go.Shelf
set_option linter.unusedVariables false
set_option Elab.async false
namespace Qu
open Kk Pm
set_option maxRecDepth 100000 in
set_option maxHeartbeats 8000000 in
theorem ripe (A : Option Addr) (n c : Nat) (l : List E8) (h u : Int) (w : World) (hi : Rw.RS eR w A n c l) (hn : n ≤ 1000000) (hw : Wd l) :
    Calls Try.prog 18 #[.slice A n c, .int .i64 h, .int .i64 u] w fun e w' => RipeR w w' l h u e := by
  have HLN := Lib.hid hi.len
  have RW_ := Lib.hid (rip_ways l h u)
  obtain ⟨W, hW⟩ : ∃ W, ((w.alloc (.cells #[.slice A n c] 22)).alloc (.cells #[.int .i64 h] 3)).alloc (.cells #[.int .i64 u] 3) = W := ⟨_, rfl⟩
  have BW := Lib.hid (show Bel w W by rw [← hW]; exact (((Bel.refl w).alloc _).alloc _).alloc _)
  have P0 := Lib.hid (show Blk W (w.heap.size) #[.slice A n c] 22 by rw [← hW]; exact ((Blk.new w _ _).alloc _).alloc _)
  have P1 := Lib.hid (show Blk W (w.heap.size + 1) #[.int .i64 h] 3 by
    rw [← hW]
    have := (Blk.new (w.alloc (.cells #[.slice A n c] 22)) #[.int .i64 h] 3).alloc (.cells #[.int .i64 u] 3)
    rw [World.size_alloc] at this
    exact this)
  have P2 := Lib.hid (show Blk W (w.heap.size + 1 + 1) #[.int .i64 u] 3 by
    rw [← hW]
    have := Blk.new ((w.alloc (.cells #[.slice A n c] 22)).alloc (.cells #[.int .i64 h] 3)) #[.int .i64 u] 3
    rw [World.size_alloc, World.size_alloc] at this
    exact this)
  have HI := Lib.hid (hi.bel BW.out)
  have CK := Lib.hid (check A n c l W HI.out (by omega) hw)
  have HH := Lib.hid (fun V => isHeight h V)
  have HW := Lib.hid hW
  obtain ⟨e1, he1⟩ : ∃ e, (chk l).1 = e := ⟨_, rfl⟩
  obtain ⟨e2, he2⟩ : ∃ e, (chk l).2 = e := ⟨_, rfl⟩
  have HE1 := Lib.hid he1
  rw [he1, he2] at CK
  rw [he1] at RW_
  clear hi he1 he2 hW
  have FIN : ∀ (V : World) (x : Int), Bel w V → ripE l h u = x → x ≠ 0 → RipeR w V l h u (.returned (.tuple #[.slice none 0 0, .slice none 0 0, .int .i64 x])) := fun V x hb he hx => by
    obtain ⟨q1, q2⟩ := rip_nil (l := l) (h := h) (u := u) (by rw [he]; exact hx)
    exact ⟨none, 0, 0, none, 0, 0, by rw [he], by rw [q1, q2]; exact Halves.nil_ _ _, hb⟩
  have FIN := Lib.hid FIN
  go_enter Try.func18, Try.ntmps18
  go_upto_region 1 with fail
  try rw [HW.out]
  have p0_ := P0.out.cell 0 rfl
  go_wp2_with fail
  refine CK.out.mono ?_
  rintro e w1 ⟨rfl, kb⟩
  have K1 := Lib.hid (BW.out.trans kb)
  have Q0 := Lib.hid (P0.out.bel kb)
  have Q1 := Lib.hid (P1.out.bel kb)
  have Q2 := Lib.hid (P2.out.bel kb)
  have HI1 := Lib.hid (HI.out.bel kb)
  clear kb CK p0_
  have q0_ := Q0.out.cell 0 rfl
  have q1_ := Q1.out.cell 0 rfl
  have q2_ := Q2.out.cell 0 rfl
  by_cases h0 : e1 = 0
  · subst h0
    have hR2 := RW_.out.2
    by_cases hb : 1 ≤ h ∧ h ≤ 4294967296
    · have ih := HH.out w1
      rw [decide_eq_true hb] at ih
      by_cases hp1 : 1 ≤ u
      · by_cases hp2 : u ≤ 1048576
        · have HE := Lib.hid (hR2.2 rfl ⟨hb.1, hb.2, hp1, hp2⟩)
          have HOK := Lib.hid (chk_ok.1 HE1.out)
          have hb3 : ¬ u < 1 := by omega
          have hb4 : ¬ 1048576 < u := by omega
          have SR := Lib.hid (fun V (hv : Bel w1 V) => search A n c l h u w.heap.size (w.heap.size + 1) (w.heap.size + 1 + 1) V (HI1.out.bel hv) hn (Q0.out.bel hv) (Q1.out.bel hv) (Q2.out.bel hv) (fun r hr => may_cr (srt_le l 0 HOK.out.2.1 r hr).1) ⟨hp1, hp2⟩ (fun i j x y hij hx hy => srt_get l 0 HOK.out.2.1 i j x y hij hx hy))
          clear hR2 RW_ hp1 hp2 FIN hb
          go_wp2_with fail
          refine ih.mono ?_
          rintro e w2 ⟨rfl, rfl⟩
          clear ih
          go_wp2_with fail
          refine (SR.out _ (Bel.refl _)).mono ?_
          rintro e w3 ⟨k, rfl, hk, h1, h2, kb⟩
          have K3 := Lib.hid (K1.out.trans kb)
          have HPT := Lib.hid (rip_at l 0 HOK.out.2.1 (h - u) k (by rw [HLN.out]; exact hk) h1 h2)
          have CL := Lib.hid (clone A n c l w3 (HI1.out.bel kb) (by omega))
          have q3_ := (Q0.out.bel kb).cell 0 rfl
          have HKN := Lib.hid hk
          clear h1 h2 kb SR q0_ q1_ q2_ hk
          go_wp2_with fail
          refine CL.out.mono ?_
          rintro e w4 ⟨y, rfl, ho, kb⟩

          have HO := Lib.hid (ho.mono (Below.size K3.out))
          have K4 := Lib.hid (K3.out.trans kb)
          obtain ⟨A', c', rfl, hr4, _⟩ := ho.rs eR
          have hcap := hr4.cap
          rw [HLN.out] at hcap
          have HHV := Lib.hid (own_halves (n := n) (by rw [← HLN.out]; exact HO.out) HLN.out HKN.out)
          have s1 := fun V => slice_k A' l.length c' k (by have := HKN.out; omega) V
          have s2 := fun V => slice_l A' l.length c' k (by have := HKN.out; have := HLN.out; omega) (by rw [HLN.out]; omega) V
          rw [HLN.out] at s1 s2
          rw [HLN.out]
          obtain ⟨Q, hQ⟩ : ∃ Q, (if c' = k then A' else A'.map (fun a => a.add (k * 8))) = Q := ⟨_, rfl⟩
          rw [hQ] at s2
          have HHV := Lib.hid (hQ ▸ HHV.out)
          clear hQ
          clear kb CL q3_ hr4 ho hcap HO
          go_upto_region 8 with fail
          go_quiet (fail)
          go_wp2_with fail
          go_ret3
          refine ⟨A', k, k, Q, n - k, c' - k, by rw [HE.out]; rfl, ?_, K4.out.trans (by first | exact Bel.refl _ | exact bel_drewN _ _)⟩
          have hrl : ripL l h u = l.take k := (if_pos HE.out).trans HPT.out.1
          have hll : lftL l h u = l.drop k := (if_pos HE.out).trans HPT.out.2
          rw [hrl, hll]
          exact HHV.out.bel (by first | exact Bel.refl _ | exact bel_drewN _ _)
        · have HE := Lib.hid (hR2.1 rfl (fun h => hp2 h.2.2.2))
          have hb3 : ¬ u < 1 := by omega
          have hb4 : 1048576 < u := by omega
          clear hR2 RW_ hb hp1 hp2
          go_wp2_with fail
          refine ih.mono ?_
          rintro e w2 ⟨rfl, rfl⟩
          clear ih
          go_wp2_with fail
          go_ret3
          exact FIN.out _ 3 K1.out HE.out (by decide)
      · have HE := Lib.hid (hR2.1 rfl (fun h => hp1 h.2.2.1))
        have hb3 : u < 1 := by omega
        clear hR2 RW_ hb hp1
        go_wp2_with fail
        refine ih.mono ?_
        rintro e w2 ⟨rfl, rfl⟩
        clear ih
        go_wp2_with fail
        go_ret3
        exact FIN.out _ 3 K1.out HE.out (by decide)
    · have ih := HH.out w1
      rw [decide_eq_false hb] at ih
      have HE := Lib.hid (hR2.1 rfl (fun h => hb ⟨h.1, h.2.1⟩))
      clear hR2 RW_ hb
      go_wp2_with fail
      refine ih.mono ?_
      rintro e w2 ⟨rfl, rfl⟩
      clear ih
      go_wp2_with fail
      go_ret3
      exact FIN.out _ 3 K1.out HE.out (by decide)
  · have HE := Lib.hid (RW_.out.1 h0)
    have hne : (e1 != 0) = true := by rw [bne_iff_ne]; exact h0
    have H0 := Lib.hid h0
    clear h0
    go_wp2_with fail
    go_ret3
    exact FIN.out _ e1 K1.out HE.out H0.out
end Qu
end Go.Proofs.Ytdpompponngmdaa
end
