/-
  Texts of this claim, put together: Qu16, Qu17. What each one says, and under which conditions, stands ahead of it.
-/
import Derived.Test.YtdpompponngmdaaQB
import Derived.Test.YtdpompponngmdaaGQu6
import Derived.Test.YtdpompponngmdaaQA
import Derived.Test.YtdpompponngmdaaGQu7

section
/-
  What queue.Add answers of any queue and any entry. Conditions: at most a million entries; Balances are words.
-/
namespace Go.Proofs.Ytdpompponngmdaa
open Go.RowKit Go.Shelf
set_option linter.unusedVariables false
set_option linter.unusedSimpArgs false
set_option Elab.async false
namespace Qu
open Kk Pm

theorem add_ways (l : List E8) (x : E8) (m : Int) :
    ((chk l).1 ≠ 0 → addE l x m = (chk l).1) ∧ ((chk l).1 = 0 → (m < 1 ∨ 16 < m) → addE l x m = 3) ∧
    ((chk l).1 = 0 → ¬ (m < 1 ∨ 16 < m) → qE (bef 0 l l.length) x ≠ 0 → addE l x m = qE (bef 0 l l.length) x) ∧
    ((chk l).1 = 0 → ¬ (m < 1 ∨ 16 < m) → qE (bef 0 l l.length) x = 0 → (bal x ≠ ini x → addE l x m = 11) ∧
      (bal x = ini x → (m ≤ live l (own x) (val x) → addE l x m = 22) ∧ ((live l (own x) (val x) : Int) < m → (l.length = 32768 → addE l x m = 7) ∧
        (l.length ≠ 32768 → (4611686018427387904 < tot l + bal x → addE l x m = 12) ∧ (tot l + bal x ≤ 4611686018427387904 → addE l x m = 0))))) :=
  ⟨addE_0, addE_3, addE_q, fun h h1 h2 => ⟨addE_11 h h1 h2, fun h3 => ⟨addE_22 h h1 h2 h3, fun h4 => ⟨addE_7 h h1 h2 h3 (by omega), fun h5 => ⟨addE_12 h h1 h2 h3 (by omega) h5, fun h6 => addE_ok h h1 h2 h3 (by omega) h5 (by omega)⟩⟩⟩⟩⟩
/-- What Add tells. -/
def AddR (w w' : World) (l : List E8) (x : E8) (m : Int) (e : Ending) : Prop := ∃ y, e = .returned (.tuple #[y, .int .i64 (addE l x m)]) ∧ OwnE w' w.heap.size y (addL l x m) ∧ Bel w w'
set_option maxRecDepth 100000 in
set_option maxHeartbeats 16000000 in
theorem add (A : Option Addr) (n c : Nat) (l : List E8) (x1 x2 x3 x4 x5 x6 x7 x8 m : Int) (w : World) (hi : Rw.RS eR w A n c l) (hn : n ≤ 1000000) (hw : Wd l) (hx : 0 ≤ x8 ∧ x8 ≤ 18446744073709551615) :
    Calls Try.prog 12 #[.slice A n c, .agg #[.int .i64 x1, .int .i64 x2, .int .i64 x3, .int .i64 x4, .int .i64 x5, .int .i64 x6, .int .u64 x7, .int .u64 x8], .int .i64 m] w fun e w' => AddR w w' l (x1, x2, x3, x4, x5, x6, x7, x8) m e := by
  have HI := Lib.hid hi
  have HLN := Lib.hid hi.len
  have HW := Lib.hid hw
  have HX := Lib.hid hx
  have P0 := Lib.hid (Blk.new w #[.int .i64 x1, .int .i64 x2, .int .i64 x3, .int .i64 x4, .int .i64 x5, .int .i64 x6, .int .u64 x7, .int .u64 x8] 27)
  obtain ⟨W, hW⟩ : ∃ W, w.alloc (.cells #[.int .i64 x1, .int .i64 x2, .int .i64 x3, .int .i64 x4, .int .i64 x5, .int .i64 x6, .int .u64 x7, .int .u64 x8] 27) = W := ⟨_, rfl⟩
  have BW := Lib.hid (show Bel w W by rw [← hW]; exact (Bel.refl w).alloc _)
  rw [hW] at P0
  have CK := Lib.hid (check A n c l W (hi.bel BW.out) (by omega) hw)
  have AW := Lib.hid (add_ways l (x1, x2, x3, x4, x5, x6, x7, x8) m)
  obtain ⟨e1, he1⟩ : ∃ e, (chk l).1 = e := ⟨_, rfl⟩
  obtain ⟨e2, he2⟩ : ∃ e, (chk l).2 = e := ⟨_, rfl⟩
  have HE1 := Lib.hid he1
  rw [he1, he2] at CK
  rw [he1] at AW
  rw [HLN.out] at AW
  obtain ⟨bf, hbf⟩ : ∃ bf, bef 0 l n = bf := ⟨_, rfl⟩
  obtain ⟨q, hq⟩ : ∃ q, qE bf (x1, x2, x3, x4, x5, x6, x7, x8) = q := ⟨_, rfl⟩
  rw [hbf, hq] at AW
  have HBF := Lib.hid hbf
  have HQ := Lib.hid hq
  clear hi he1 he2 hw hx hbf hq
  have FIN : ∀ (V : World) (x : Int), Bel w V → addE l (x1, x2, x3, x4, x5, x6, x7, x8) m = x → x ≠ 0 → AddR w V l (x1, x2, x3, x4, x5, x6, x7, x8) m (.returned (.tuple #[.slice none 0 0, .int .i64 x])) := fun V x hb he hx =>
    ⟨_, by rw [he], by rw [addL_ne (by rw [he]; exact hx)]; exact Rw.OwnR.nil_ _ _ _ _, hb⟩
  have FIN := Lib.hid FIN
  go_enter Try.func12, Try.ntmps12
  go_upto_region 1 with fail
  try rw [hW]
  obtain ⟨g, hg⟩ : ∃ g, w.heap.size = g := ⟨_, rfl⟩
  rw [hg] at P0 ⊢
  have HGG := Lib.hid hg
  clear hW hg
  go_wp2_with fail
  refine CK.out.mono ?_
  rintro e w1 ⟨rfl, kb⟩
  have K1 := Lib.hid (BW.out.trans kb)
  have P1 := Lib.hid (P0.out.bel kb)
  clear kb CK P0
  by_cases h0 : e1 = 0
  · subst h0
    by_cases hm1 : m < 1
    · have HE := Lib.hid (AW.out.2.1 rfl (.inl hm1))
      clear AW
      go_wp2_with fail
      go_ret2
      exact FIN.out _ 3 K1.out HE.out (by decide)
    by_cases hm2 : 16 < m
    · have HE := Lib.hid (AW.out.2.1 rfl (.inr hm2))
      clear AW
      go_wp2_with fail
      go_ret2
      exact FIN.out _ 3 K1.out HE.out (by decide)
    have hno : ¬ (m < 1 ∨ 16 < m) := by omega
    have AQ := Lib.hid (AW.out.2.2.1 rfl hno)
    have AX := Lib.hid (AW.out.2.2.2 rfl hno)
    clear AW hno
    have FL := Lib.hid (flaw A n c l x1 x2 x3 x4 x5 x6 x7 x8 w1 (HI.out.bel K1.out) (by omega))
    rw [HBF.out, HQ.out] at FL
    have c0 := P1.out.cell 0 rfl
    have c1 := P1.out.cell 1 rfl
    have c2 := P1.out.cell 2 rfl
    have c3 := P1.out.cell 3 rfl
    have c4 := P1.out.cell 4 rfl
    have c5 := P1.out.cell 5 rfl
    have c6 := P1.out.cell 6 rfl
    have c7 := P1.out.cell 7 rfl
    go_wp2_with fail
    refine FL.out.mono ?_
    rintro e w2 ⟨rfl, kb⟩
    have K2 := Lib.hid (K1.out.trans kb)
    have P2 := Lib.hid (P1.out.bel kb)
    clear kb FL P1 c0 c1 c2 c3 c4 c5 c6 c7
    by_cases hq0 : q = 0
    · have hqb : (q != 0) = false := by rw [hq0]; rfl
      have AX := Lib.hid (AX.out hq0)
      have HQ0 := Lib.hid hq0
      clear AQ hq0
      have g4 := P2.out.cell 7 rfl
      have g3 := P2.out.cell 6 rfl
      have g0 := P2.out.cell 0 rfl
      have g1 := P2.out.cell 1 rfl
      by_cases hbi : x8 = x7
      · have hbb : (x8 != x7) = false := by rw [hbi]; simp
        have AX := Lib.hid (AX.out.2 hbi)
        clear hbi
        have LV := Lib.hid (liveX A n c l x1 x2 w2 (HI.out.bel K2.out) (by omega))
        obtain ⟨C, hC⟩ : ∃ C, live l x1 x2 = C := ⟨_, rfl⟩
        have AX := Lib.hid (show (m ≤ C → addE l (x1, x2, x3, x4, x5, x6, x7, x8) m = 22) ∧ ((C : Int) < m → (n = 32768 → addE l (x1, x2, x3, x4, x5, x6, x7, x8) m = 7) ∧ (n ≠ 32768 → (4611686018427387904 < tot l + x8 → addE l (x1, x2, x3, x4, x5, x6, x7, x8) m = 12) ∧ (tot l + x8 ≤ 4611686018427387904 → addE l (x1, x2, x3, x4, x5, x6, x7, x8) m = 0))) from by rw [← hC]; exact AX.out)
        rw [hC] at LV
        clear hC
        go_wp2_with fail
        refine LV.out.mono ?_
        rintro e w3 ⟨rfl, kb⟩
        have K3 := Lib.hid (K2.out.trans kb)
        have P3 := Lib.hid (P2.out.bel kb)
        clear kb LV P2 g0 g1 g3 g4
        by_cases hc : m ≤ (C : Int)
        · have HE := Lib.hid (AX.out.1 hc)
          clear AX
          go_wp2_with fail
          go_ret2
          exact FIN.out _ 22 K3.out HE.out (by decide)
        have AX := Lib.hid (AX.out.2 (Int.not_le.1 hc))
        have hc' : ¬ ((C : Int) ≥ m) := by omega
        by_cases hl : n = 32768
        · have HE := Lib.hid (AX.out.1 hl)
          have hl3 : ((n : Int) == 32768) = true := by rw [hl]; rfl
          clear AX
          go_wp2_with fail
          go_ret2
          exact FIN.out _ 7 K3.out HE.out (by decide)
        have AX := Lib.hid (AX.out.2 hl)
        have hl3 : ((n : Int) == 32768) = false := by simp; omega
        have HT := Lib.hid (show 0 ≤ tot l ∧ tot l ≤ 4611686018427387904 from ⟨tot_pos HW.out, (chk_ok.1 HE1.out).2.2⟩)
        have BA := Lib.hid (fun V (hv : Bel w V) => balances A n c l V (HI.out.bel hv) (by omega) HW.out)
        rw [cap_le (by have := HT.out; omega)] at BA
        have WB := Lib.hid (fun V => withBalance (tot l) x1 x2 x3 x4 x5 x6 x7 x8 V (by have := HT.out; omega) HX.out)
        obtain ⟨t, ht⟩ : ∃ t, tot l = t := ⟨_, rfl⟩
        rw [ht] at BA WB AX
        clear ht HT
        by_cases ho : 4611686018427387904 < t + x8
        · have HE := Lib.hid (AX.out.1 ho)
          have hg1 : 4611686018427387904 < cap (t + x8) := cap_big.2 ho
          obtain ⟨S, hS_⟩ : ∃ S, cap (t + x8) = S := ⟨_, rfl⟩
          rw [hS_] at WB hg1
          clear AX ho hS_
          have hgb : decide (4611686018427387904 < S) = true := decide_eq_true hg1
          go_upto_region 15 with fail
          refine wp_region_held_drew (S := fun Vx => Bel w3 Vx) (by kernel_rfl) (Bel.refl _).drew (fun hS0 => ?_)
          obtain ⟨w6, hw6⟩ : ∃ w6, World.drew w3 = w6 := ⟨_, rfl⟩
          rw [hw6] at hS0 ⊢
          clear hw6
          refine wpAnyH_take (i := 0) (oi := { dst := some 52, op := .move (.tmp 0), type := 22, pos := "queue.go:31", after := #[], guard := none }) (v := .slice A n c) rfl (by kernel_rfl) (by kernel_rfl) (by kernel_rfl) (fun _ _ _ h => h) (Or.inl ⟨by rfl, by intro w hSw; clear hSw; go_simp⟩) hS0 ?_
          try simp only [Act.put, List.setIfInBounds_toArray, List.set_cons_zero, List.set_cons_succ]
          refine wpAnyH_take (i := 2) (oi := { dst := some 54, op := .load 27 (.tmp 4), type := 27, pos := "queue.go:31", after := #[], guard := none }) (v := .agg #[.int .i64 x1, .int .i64 x2, .int .i64 x3, .int .i64 x4, .int .i64 x5, .int .i64 x6, .int .u64 x7, .int .u64 x8]) rfl (by kernel_rfl) (by kernel_rfl) (by kernel_rfl) (fun _ _ _ h => h) (yieldsIf_load_mid (by rfl) _ _ rfl _ _ rfl _ _ (fun w h => rng_bel (rngB (C := [.int .i64 x1, .int .i64 x2, .int .i64 x3, .int .i64 x4, .int .i64 x5, .int .i64 x6, .int .u64 x7, .int .u64 x8]) P3.out) h) Try.underlying27 rfl info_E) hS0 ?_
          try simp only [Act.put, List.setIfInBounds_toArray, List.set_cons_zero, List.set_cons_succ]
          refine wpAnyH_ready (rs := [1]) (by kernel_rfl) (by simp) ?_
          refine AllReadyH.cons (o := { dst := some 53, op := .call { callee := .value (.func 44), args := #[.tmp 52], argTypes := #[22] }, type := 25, pos := "queue.go:31", after := #[{ on := 0, ground := .data }], guard := none }) rfl (fun K hK => ?_) AllReadyH.nil
          go_simp
          refine (BA.out _ (K3.out.trans hS0)).mono ?_
          rintro e v1 ⟨rfl, kb⟩
          go_wp2_with fail
          refine hK.out _ _ (hS0.trans kb) (fun hS1 => ?_)
          clear hK K
          try simp only [Act.put, List.setIfInBounds_toArray, List.set_cons_zero, List.set_cons_succ]
          refine wpAnyH_ready (rs := [3]) (by kernel_rfl) (by simp) ?_
          refine AllReadyH.cons (o := { dst := some 55, op := .call { callee := .value (.func 43), args := #[.tmp 53, .tmp 54], argTypes := #[25, 27] }, type := 25, pos := "queue.go:31", after := #[{ on := 1, ground := .data }, { on := 2, ground := .data }, { on := 1, ground := .chain }], guard := none }) rfl (fun K hK => ?_) AllReadyH.nil
          go_simp
          refine (WB.out _).mono ?_
          rintro e v2 ⟨rfl, kb⟩
          go_wp2_with fail
          refine hK.out _ _ (hS1.trans kb) (fun hS2 => ?_)
          clear hK K
          try simp only [Act.put, List.setIfInBounds_toArray, List.set_cons_zero, List.set_cons_succ]
          refine wpAnyH_take (i := 4) (oi := { dst := some 56, op := .binOp .gtr 25 (.tmp 55) (.const (Value.int IntKind.u64 4611686018427387904)) 25, type := 4, pos := "queue.go:31", after := #[{ on := 3, ground := .data }], guard := none }) (v := .bool true) rfl (by kernel_rfl) (by kernel_rfl) (by kernel_rfl) (fun _ _ _ h => h) (Or.inl ⟨by rfl, by intro w hSw; clear hSw; go_simp⟩) hS2 ?_
          try simp only [Act.put, List.setIfInBounds_toArray, List.set_cons_zero, List.set_cons_succ]
          refine wpAnyH_take (i := 5) (oi := { dst := some 51, op := .assign (.tmp 56), type := 4, pos := "queue.go:31", after := #[{ on := 4, ground := .data }, { on := 3, ground := .chain }], guard := none }) (v := .bool true) rfl (by kernel_rfl) (by kernel_rfl) (by kernel_rfl) (fun _ _ _ h => h) (Or.inl ⟨by rfl, by intro w hSw; clear hSw; go_simp⟩) hS2 ?_
          try simp only [Act.put, List.setIfInBounds_toArray, List.set_cons_zero, List.set_cons_succ]
          refine wpAnyH_done (by kernel_rfl) ?_ _
          clear BA WB
          go_wp2_with fail
          go_ret2
          exact FIN.out _ 12 (K3.out.trans hS2) HE.out (by decide)
        · have HE := Lib.hid (AX.out.2 (Int.not_lt.1 ho))
          have hg1 : ¬ 4611686018427387904 < cap (t + x8) := fun h => ho (cap_big.1 h)
          obtain ⟨S, hS_⟩ : ∃ S, cap (t + x8) = S := ⟨_, rfl⟩
          rw [hS_] at WB hg1
          clear AX ho hS_
          have hgb : decide (4611686018427387904 < S) = false := decide_eq_false hg1
          have hsl := fun V => slice_full A n c HI.out.cap V
          go_upto_region 15 with fail
          refine wp_region_held_drew (S := fun Vx => Bel w3 Vx) (by kernel_rfl) (Bel.refl _).drew (fun hS0 => ?_)
          obtain ⟨w6, hw6⟩ : ∃ w6, World.drew w3 = w6 := ⟨_, rfl⟩
          rw [hw6] at hS0 ⊢
          clear hw6
          refine wpAnyH_take (i := 0) (oi := { dst := some 52, op := .move (.tmp 0), type := 22, pos := "queue.go:31", after := #[], guard := none }) (v := .slice A n c) rfl (by kernel_rfl) (by kernel_rfl) (by kernel_rfl) (fun _ _ _ h => h) (Or.inl ⟨by rfl, by intro w hSw; clear hSw; go_simp⟩) hS0 ?_
          try simp only [Act.put, List.setIfInBounds_toArray, List.set_cons_zero, List.set_cons_succ]
          refine wpAnyH_take (i := 2) (oi := { dst := some 54, op := .load 27 (.tmp 4), type := 27, pos := "queue.go:31", after := #[], guard := none }) (v := .agg #[.int .i64 x1, .int .i64 x2, .int .i64 x3, .int .i64 x4, .int .i64 x5, .int .i64 x6, .int .u64 x7, .int .u64 x8]) rfl (by kernel_rfl) (by kernel_rfl) (by kernel_rfl) (fun _ _ _ h => h) (yieldsIf_load_mid (by rfl) _ _ rfl _ _ rfl _ _ (fun w h => rng_bel (rngB (C := [.int .i64 x1, .int .i64 x2, .int .i64 x3, .int .i64 x4, .int .i64 x5, .int .i64 x6, .int .u64 x7, .int .u64 x8]) P3.out) h) Try.underlying27 rfl info_E) hS0 ?_
          try simp only [Act.put, List.setIfInBounds_toArray, List.set_cons_zero, List.set_cons_succ]
          refine wpAnyH_ready (rs := [1]) (by kernel_rfl) (by simp) ?_
          refine AllReadyH.cons (o := { dst := some 53, op := .call { callee := .value (.func 44), args := #[.tmp 52], argTypes := #[22] }, type := 25, pos := "queue.go:31", after := #[{ on := 0, ground := .data }], guard := none }) rfl (fun K hK => ?_) AllReadyH.nil
          go_simp
          refine (BA.out _ (K3.out.trans hS0)).mono ?_
          rintro e v1 ⟨rfl, kb⟩
          go_wp2_with fail
          refine hK.out _ _ (hS0.trans kb) (fun hS1 => ?_)
          clear hK K
          try simp only [Act.put, List.setIfInBounds_toArray, List.set_cons_zero, List.set_cons_succ]
          refine wpAnyH_ready (rs := [3]) (by kernel_rfl) (by simp) ?_
          refine AllReadyH.cons (o := { dst := some 55, op := .call { callee := .value (.func 43), args := #[.tmp 53, .tmp 54], argTypes := #[25, 27] }, type := 25, pos := "queue.go:31", after := #[{ on := 1, ground := .data }, { on := 2, ground := .data }, { on := 1, ground := .chain }], guard := none }) rfl (fun K hK => ?_) AllReadyH.nil
          go_simp
          refine (WB.out _).mono ?_
          rintro e v2 ⟨rfl, kb⟩
          go_wp2_with fail
          refine hK.out _ _ (hS1.trans kb) (fun hS2 => ?_)
          clear hK K
          try simp only [Act.put, List.setIfInBounds_toArray, List.set_cons_zero, List.set_cons_succ]
          refine wpAnyH_take (i := 4) (oi := { dst := some 56, op := .binOp .gtr 25 (.tmp 55) (.const (Value.int IntKind.u64 4611686018427387904)) 25, type := 4, pos := "queue.go:31", after := #[{ on := 3, ground := .data }], guard := none }) (v := .bool false) rfl (by kernel_rfl) (by kernel_rfl) (by kernel_rfl) (fun _ _ _ h => h) (Or.inl ⟨by rfl, by intro w hSw; clear hSw; go_simp⟩) hS2 ?_
          try simp only [Act.put, List.setIfInBounds_toArray, List.set_cons_zero, List.set_cons_succ]
          refine wpAnyH_take (i := 5) (oi := { dst := some 51, op := .assign (.tmp 56), type := 4, pos := "queue.go:31", after := #[{ on := 4, ground := .data }, { on := 3, ground := .chain }], guard := none }) (v := .bool false) rfl (by kernel_rfl) (by kernel_rfl) (by kernel_rfl) (fun _ _ _ h => h) (Or.inl ⟨by rfl, by intro w hSw; clear hSw; go_simp⟩) hS2 ?_
          try simp only [Act.put, List.setIfInBounds_toArray, List.set_cons_zero, List.set_cons_succ]
          refine wpAnyH_done (by kernel_rfl) ?_ _
          have K4 := Lib.hid (K3.out.trans hS2)
          have P4 := Lib.hid (P3.out.bel hS2)
          clear BA WB
          obtain ⟨w4, hw4⟩ : ∃ w4, v2 = w4 := ⟨_, rfl⟩
          rw [hw4] at K4 P4 ⊢
          clear hw4
          go_upto_region 17 with fail
          refine wp_region_held_drew (S := fun Vx => Bel w4 Vx) (by kernel_rfl) (Bel.refl _).drew (fun hS0 => ?_)
          have HS6 := Lib.hid hS0
          obtain ⟨w6, hw6⟩ : ∃ w6, World.drew w4 = w6 := ⟨_, rfl⟩
          rw [hw6] at hS0 HS6 ⊢
          clear hw6
          have HX1 := Lib.hid (Rw.rs_one eR (r := (x1, x2, x3, x4, x5, x6, x7, x8)) (Blk.new w6 #[.int .i64 x1, .int .i64 x2, .int .i64 x3, .int .i64 x4, .int .i64 x5, .int .i64 x6, .int .u64 x7, .int .u64 x8] 27))
          have HS7 := Lib.hid ((HI.out.cut (c' := n) (Nat.le_refl _) (fun h => by have := HI.out.nil h; have := HI.out.cap; omega)).bel ((K4.out.trans HS6.out).alloc (.cells #[.int .i64 x1, .int .i64 x2, .int .i64 x3, .int .i64 x4, .int .i64 x5, .int .i64 x6, .int .u64 x7, .int .u64 x8] 27)))
          obtain ⟨cap_, W9, hAP, hRB, hOW, hB9⟩ := Rw.run_append_full eR 22 22 27 underE zero_E rfl (by decide) HS7.out HX1.out (by omega) (by omega)
          obtain ⟨W7, hW7⟩ : ∃ W7, w6.alloc (.cells #[.int .i64 x1, .int .i64 x2, .int .i64 x3, .int .i64 x4, .int .i64 x5, .int .i64 x6, .int .u64 x7, .int .u64 x8] 27) = W7 := ⟨_, rfl⟩
          have H7 := Lib.hid (show Bel w4 W7 by rw [← hW7]; exact HS6.out.alloc _)
          have H67 := Lib.hid hW7
          rw [hW7] at hAP hOW hB9
          have HAP := Lib.hid hAP
          have HOW := Lib.hid hOW
          have HB9 := Lib.hid hB9
          clear hAP hRB hOW hB9 hW7 HX1 HS7
          refine wpAnyH_take (i := 0) (oi := { dst := some 57, op := .move (.tmp 0), type := 22, pos := "queue.go:35", after := #[], guard := none }) (v := .slice A n c) rfl (by kernel_rfl) (by kernel_rfl) (by kernel_rfl) (fun _ _ _ h => h) (Or.inl ⟨by rfl, by intro w hSw; clear hSw; go_simp⟩) hS0 ?_
          try simp only [Act.put, List.setIfInBounds_toArray, List.set_cons_zero, List.set_cons_succ]
          refine wpAnyH_take (i := 1) (oi := { dst := some 58, op := .move (.tmp 0), type := 22, pos := "queue.go:35", after := #[], guard := none }) (v := .slice A n c) rfl (by kernel_rfl) (by kernel_rfl) (by kernel_rfl) (fun _ _ _ h => h) (Or.inl ⟨by rfl, by intro w hSw; clear hSw; go_simp⟩) hS0 ?_
          try simp only [Act.put, List.setIfInBounds_toArray, List.set_cons_zero, List.set_cons_succ]
          refine wpAnyH_take (i := 2) (oi := { dst := some 59, op := .call { callee := .builtin .len, args := #[.tmp 58], argTypes := #[22] }, type := 3, pos := "queue.go:35", after := #[{ on := 1, ground := .data }], guard := none }) (v := .int .i64 n) rfl (by kernel_rfl) (by kernel_rfl) (by kernel_rfl) (fun _ _ _ h => h) (Or.inl ⟨by rfl, by intro w hSw; clear hSw; go_simp⟩) hS0 ?_
          try simp only [Act.put, List.setIfInBounds_toArray, List.set_cons_zero, List.set_cons_succ]
          refine wpAnyH_take (i := 3) (oi := { dst := some 60, op := .move (.tmp 0), type := 22, pos := "queue.go:35", after := #[], guard := none }) (v := .slice A n c) rfl (by kernel_rfl) (by kernel_rfl) (by kernel_rfl) (fun _ _ _ h => h) (Or.inl ⟨by rfl, by intro w hSw; clear hSw; go_simp⟩) hS0 ?_
          try simp only [Act.put, List.setIfInBounds_toArray, List.set_cons_zero, List.set_cons_succ]
          refine wpAnyH_take (i := 4) (oi := { dst := some 61, op := .call { callee := .builtin .len, args := #[.tmp 60], argTypes := #[22] }, type := 3, pos := "queue.go:35", after := #[{ on := 3, ground := .data }], guard := none }) (v := .int .i64 n) rfl (by kernel_rfl) (by kernel_rfl) (by kernel_rfl) (fun _ _ _ h => h) (Or.inl ⟨by rfl, by intro w hSw; clear hSw; go_simp⟩) hS0 ?_
          try simp only [Act.put, List.setIfInBounds_toArray, List.set_cons_zero, List.set_cons_succ]
          refine wpAnyH_take (i := 5) (oi := { dst := some 62, op := .slice 22 (.tmp 57) none (some (.tmp 59)) (some (.tmp 61)), type := 22, pos := "queue.go:35", after := #[{ on := 0, ground := .data }, { on := 2, ground := .data }, { on := 4, ground := .data }], guard := none }) (v := .slice A n n) rfl (by kernel_rfl) (by kernel_rfl) (by kernel_rfl) (fun _ _ _ h => h) (Or.inl ⟨by rfl, by intro w hSw; clear hSw; go_simp⟩) hS0 ?_
          try simp only [Act.put, List.setIfInBounds_toArray, List.set_cons_zero, List.set_cons_succ]
          refine wpAnyH_take (i := 6) (oi := { dst := some 63, op := .load 27 (.tmp 4), type := 27, pos := "queue.go:35", after := #[], guard := none }) (v := .agg #[.int .i64 x1, .int .i64 x2, .int .i64 x3, .int .i64 x4, .int .i64 x5, .int .i64 x6, .int .u64 x7, .int .u64 x8]) rfl (by kernel_rfl) (by kernel_rfl) (by kernel_rfl) (fun _ _ _ h => h) (yieldsIf_load_mid (by rfl) _ _ rfl _ _ rfl _ _ (fun w h => rng_bel (rngB (C := [.int .i64 x1, .int .i64 x2, .int .i64 x3, .int .i64 x4, .int .i64 x5, .int .i64 x6, .int .u64 x7, .int .u64 x8]) P4.out) h) Try.underlying27 rfl info_E) hS0 ?_
          try simp only [Act.put, List.setIfInBounds_toArray, List.set_cons_zero, List.set_cons_succ]
          refine wpAnyH_ready (rs := [7]) (by kernel_rfl) (by simp) ?_
          refine AllReadyH.cons (o := { dst := some 64, op := .buildSlice 22 1 #[(0, .tmp 63)], type := 22, pos := "queue.go:35", after := #[{ on := 6, ground := .data }], guard := none }) rfl (fun K hK => ?_) AllReadyH.nil
          go_simp
          refine hK.out _ _ (HS6.out.alloc _) (fun hS1 => ?_)
          clear hK K
          try simp only [Act.put, List.setIfInBounds_toArray, List.set_cons_zero, List.set_cons_succ]
          refine wpAnyH_ready (rs := [8]) (by kernel_rfl) (by simp) ?_
          refine AllReadyH.cons (o := { dst := some 65, op := .call { callee := .builtin .append, args := #[.tmp 62, .tmp 64], argTypes := #[22, 22] }, type := 22, pos := "queue.go:35", after := #[{ on := 5, ground := .data }, { on := 7, ground := .data }], guard := none }) rfl (fun K hK => ?_) AllReadyH.nil
          rw [H67.out]
          refine Rw.step_append_run rfl (.tmp 62) (.tmp 64) 22 22 rfl _ _ (by simp [Act.eval, Act.put]) (by simp [Act.eval, Act.put]) HAP.out ?_
          refine hK.out _ _ (H7.out.trans HB9.out) (fun hS2 => ?_)
          clear hK K
          try simp only [Act.put, List.setIfInBounds_toArray, List.set_cons_zero, List.set_cons_succ]
          refine wpAnyH_take (i := 9) (oi := { dst := some 6, op := .assign (.tmp 65), type := 22, pos := "queue.go:35", after := #[{ on := 8, ground := .data }, { on := 8, ground := .chain }, { on := 0, ground := .phase }, { on := 1, ground := .phase }, { on := 2, ground := .phase }, { on := 3, ground := .phase }, { on := 4, ground := .phase }, { on := 5, ground := .phase }, { on := 6, ground := .phase }, { on := 7, ground := .phase }, { on := 8, ground := .phase }], guard := none }) (v := .slice (some ⟨(World.heap W7).size, 0, none⟩) (n + 1) cap_) rfl (by kernel_rfl) (by kernel_rfl) (by kernel_rfl) (fun _ _ _ h => h) (Or.inl ⟨by rfl, by intro w hSw; clear hSw; go_simp⟩) hS2 ?_
          try simp only [Act.put, List.setIfInBounds_toArray, List.set_cons_zero, List.set_cons_succ]
          refine wpAnyH_take (i := 10) (oi := { dst := some 7, op := .assign (.const (Value.int IntKind.i64 0)), type := 30, pos := "queue.go:35", after := #[{ on := 9, ground := .chain }, { on := 0, ground := .phase }, { on := 1, ground := .phase }, { on := 2, ground := .phase }, { on := 3, ground := .phase }, { on := 4, ground := .phase }, { on := 5, ground := .phase }, { on := 6, ground := .phase }, { on := 7, ground := .phase }, { on := 8, ground := .phase }, { on := 9, ground := .phase }], guard := none }) (v := .int .i64 0) rfl (by kernel_rfl) (by kernel_rfl) (by kernel_rfl) (fun _ _ _ h => h) (Or.inl ⟨by rfl, by intro w hSw; clear hSw; go_simp⟩) hS2 ?_
          try simp only [Act.put, List.setIfInBounds_toArray, List.set_cons_zero, List.set_cons_succ]
          refine wpAnyH_done (by kernel_rfl) ?_ _
          go_wp2_with fail
          go_ret2
          refine ⟨_, by rw [HE.out]; rfl, ?_, (K4.out.trans H7.out).trans HB9.out⟩
          rw [addL_eq HE.out]
          exact HOW.out.mono (Nat.le_trans (Below.size K4.out) (Below.size H7.out))
      · have HE := Lib.hid (AX.out.1 hbi)
        have hbb : (x8 != x7) = true := by rw [bne_iff_ne]; exact hbi
        clear AX hbi
        go_wp2_with fail
        go_ret2
        exact FIN.out _ 11 K2.out HE.out (by decide)
    · have HE := Lib.hid (AQ.out hq0)
      have hqb : (q != 0) = true := by rw [bne_iff_ne]; exact hq0
      have H0 := Lib.hid hq0
      clear AQ AX hq0
      go_wp2_with fail
      go_ret2
      exact FIN.out _ q K2.out HE.out H0.out
  · have HE := Lib.hid (AW.out.1 h0)
    have hne : (e1 != 0) = true := by rw [bne_iff_ne]; exact h0
    have H0 := Lib.hid h0
    clear h0
    go_wp2_with fail
    go_ret2
    exact FIN.out _ e1 K1.out HE.out H0.out
end Qu
end Go.Proofs.Ytdpompponngmdaa
end

section
/-
  What the reference's Add answers of any queue and any entry. Conditions: at most a million entries; Balances are words.
-/
namespace Go.Proofs.Ytdpompponngmdaa
open Go.RowKit Go.Shelf
set_option linter.unusedVariables false
set_option linter.unusedSimpArgs false
set_option Elab.async false
namespace Qu
open Kk Pm

set_option maxRecDepth 100000 in
set_option maxHeartbeats 16000000 in
theorem addR (A : Option Addr) (n c : Nat) (l : List E8) (x1 x2 x3 x4 x5 x6 x7 x8 m : Int) (w : World) (hi : Rw.RS eR w A n c l) (hn : n ≤ 1000000) (hw : Wd l) (hx : 0 ≤ x8 ∧ x8 ≤ 18446744073709551615) :
    Calls Try.prog 13 #[.slice A n c, .agg #[.int .i64 x1, .int .i64 x2, .int .i64 x3, .int .i64 x4, .int .i64 x5, .int .i64 x6, .int .u64 x7, .int .u64 x8], .int .i64 m] w fun e w' => AddR w w' l (x1, x2, x3, x4, x5, x6, x7, x8) m e := by
  have HI := Lib.hid hi
  have HLN := Lib.hid hi.len
  have HW := Lib.hid hw
  have HX := Lib.hid hx
  have P0 := Lib.hid (Blk.new w #[.int .i64 x1, .int .i64 x2, .int .i64 x3, .int .i64 x4, .int .i64 x5, .int .i64 x6, .int .u64 x7, .int .u64 x8] 27)
  obtain ⟨W, hW⟩ : ∃ W, w.alloc (.cells #[.int .i64 x1, .int .i64 x2, .int .i64 x3, .int .i64 x4, .int .i64 x5, .int .i64 x6, .int .u64 x7, .int .u64 x8] 27) = W := ⟨_, rfl⟩
  have BW := Lib.hid (show Bel w W by rw [← hW]; exact (Bel.refl w).alloc _)
  rw [hW] at P0
  have CK := Lib.hid (checkR A n c l W (hi.bel BW.out) (by omega) hw)
  have AW := Lib.hid (add_ways l (x1, x2, x3, x4, x5, x6, x7, x8) m)
  obtain ⟨e1, he1⟩ : ∃ e, (chk l).1 = e := ⟨_, rfl⟩
  obtain ⟨e2, he2⟩ : ∃ e, (chk l).2 = e := ⟨_, rfl⟩
  have HE1 := Lib.hid he1
  rw [he1, he2] at CK
  rw [he1] at AW
  rw [HLN.out] at AW
  obtain ⟨bf, hbf⟩ : ∃ bf, bef 0 l n = bf := ⟨_, rfl⟩
  obtain ⟨q, hq⟩ : ∃ q, qE bf (x1, x2, x3, x4, x5, x6, x7, x8) = q := ⟨_, rfl⟩
  rw [hbf, hq] at AW
  have HBF := Lib.hid hbf
  have HQ := Lib.hid hq
  clear hi he1 he2 hw hx hbf hq
  have FIN : ∀ (V : World) (x : Int), Bel w V → addE l (x1, x2, x3, x4, x5, x6, x7, x8) m = x → x ≠ 0 → AddR w V l (x1, x2, x3, x4, x5, x6, x7, x8) m (.returned (.tuple #[.slice none 0 0, .int .i64 x])) := fun V x hb he hx =>
    ⟨_, by rw [he], by rw [addL_ne (by rw [he]; exact hx)]; exact Rw.OwnR.nil_ _ _ _ _, hb⟩
  have FIN := Lib.hid FIN
  go_enter Try.func13, Try.ntmps13
  go_upto_region 1 with fail
  try rw [hW]
  obtain ⟨g, hg⟩ : ∃ g, w.heap.size = g := ⟨_, rfl⟩
  rw [hg] at P0 ⊢
  have HGG := Lib.hid hg
  clear hW hg
  go_wp2_with fail
  refine CK.out.mono ?_
  rintro e w1 ⟨rfl, kb⟩
  have K1 := Lib.hid (BW.out.trans kb)
  have P1 := Lib.hid (P0.out.bel kb)
  clear kb CK P0
  by_cases h0 : e1 = 0
  · subst h0
    by_cases hm1 : m < 1
    · have HE := Lib.hid (AW.out.2.1 rfl (.inl hm1))
      clear AW
      go_wp2_with fail
      go_ret2
      exact FIN.out _ 3 K1.out HE.out (by decide)
    by_cases hm2 : 16 < m
    · have HE := Lib.hid (AW.out.2.1 rfl (.inr hm2))
      clear AW
      go_wp2_with fail
      go_ret2
      exact FIN.out _ 3 K1.out HE.out (by decide)
    have hno : ¬ (m < 1 ∨ 16 < m) := by omega
    have AQ := Lib.hid (AW.out.2.2.1 rfl hno)
    have AX := Lib.hid (AW.out.2.2.2 rfl hno)
    clear AW hno
    have LA := Lib.hid (fun V (hv : Bel w V) => lastR A n c l V (HI.out.bel hv) (by omega))
    rw [HBF.out] at LA
    have ON := Lib.hid (fun V => oneR bf x1 x2 x3 x4 x5 x6 x7 x8 V)
    rw [HQ.out] at ON
    go_upto_region 6 with fail
    refine wp_region_held_drew (S := fun Vx => Bel w1 Vx) (by kernel_rfl) (Bel.refl _).drew (fun hS0 => ?_)
    obtain ⟨w6, hw6⟩ : ∃ w6, World.drew w1 = w6 := ⟨_, rfl⟩
    rw [hw6] at hS0 ⊢
    clear hw6
    refine wpAnyH_take (i := 0) (oi := { dst := some 28, op := .load 27 (.tmp 4), type := 27, pos := "ref.go:86", after := #[], guard := none }) (v := .agg #[.int .i64 x1, .int .i64 x2, .int .i64 x3, .int .i64 x4, .int .i64 x5, .int .i64 x6, .int .u64 x7, .int .u64 x8]) rfl (by kernel_rfl) (by kernel_rfl) (by kernel_rfl) (fun _ _ _ h => h) (yieldsIf_load_mid (by rfl) _ _ rfl _ _ rfl _ _ (fun w h => rng_bel (rngB (C := [.int .i64 x1, .int .i64 x2, .int .i64 x3, .int .i64 x4, .int .i64 x5, .int .i64 x6, .int .u64 x7, .int .u64 x8]) P1.out) h) Try.underlying27 rfl info_E) hS0 ?_
    try simp only [Act.put, List.setIfInBounds_toArray, List.set_cons_zero, List.set_cons_succ]
    refine wpAnyH_take (i := 1) (oi := { dst := some 29, op := .move (.tmp 0), type := 22, pos := "ref.go:86", after := #[], guard := none }) (v := .slice A n c) rfl (by kernel_rfl) (by kernel_rfl) (by kernel_rfl) (fun _ _ _ h => h) (Or.inl ⟨by rfl, by intro w hSw; clear hSw; go_simp⟩) hS0 ?_
    try simp only [Act.put, List.setIfInBounds_toArray, List.set_cons_zero, List.set_cons_succ]
    refine Rw.still_take (i := 2) (x := { dst := some 30, op := .call { callee := .value (.func 46), args := #[.tmp 29], argTypes := #[22] }, type := 3, pos := "ref.go:86", after := #[{ on := 1, ground := .data }], guard := none }) (v := .int .i64 bf) rfl (by kernel_rfl) (by kernel_rfl) (by kernel_rfl) (fun _ _ _ h => h) ⟨by rfl, 46, #[.slice A n c], by intro w hSw; clear hSw; go_simp, fun w h => LA.out _ (K1.out.trans h)⟩ hS0 ?_
    try simp only [Act.put, List.setIfInBounds_toArray, List.set_cons_zero, List.set_cons_succ]
    refine wpAnyH_ready (rs := [3]) (by kernel_rfl) (by simp) ?_
    refine AllReadyH.cons (o := { dst := some 31, op := .call { callee := .value (.func 45), args := #[.tmp 28, .tmp 30], argTypes := #[27, 3] }, type := 30, pos := "ref.go:86", after := #[{ on := 0, ground := .data }, { on := 2, ground := .data }, { on := 2, ground := .chain }], guard := none }) rfl (fun K hK => ?_) AllReadyH.nil
    go_simp
    refine (ON.out _).mono ?_
    rintro e v1 ⟨rfl, kb⟩
    go_wp2_with fail
    refine hK.out _ _ (hS0.trans kb) (fun hS1 => ?_)
    clear hK K
    try simp only [Act.put, List.setIfInBounds_toArray, List.set_cons_zero, List.set_cons_succ]
    refine wpAnyH_take (i := 4) (oi := { dst := some 10, op := .assign (.tmp 31), type := 30, pos := "ref.go:86", after := #[{ on := 3, ground := .data }, { on := 3, ground := .chain }, { on := 0, ground := .phase }, { on := 1, ground := .phase }, { on := 2, ground := .phase }, { on := 3, ground := .phase }], guard := none }) (v := .int .i64 q) rfl (by kernel_rfl) (by kernel_rfl) (by kernel_rfl) (fun _ _ _ h => h) (Or.inl ⟨by rfl, by intro w hSw; clear hSw; go_simp⟩) hS1 ?_
    try simp only [Act.put, List.setIfInBounds_toArray, List.set_cons_zero, List.set_cons_succ]
    refine wpAnyH_done (by kernel_rfl) ?_ _
    have K2 := Lib.hid (K1.out.trans hS1)
    have P2 := Lib.hid (P1.out.bel hS1)
    clear LA ON P1
    obtain ⟨w2, hw2⟩ : ∃ w2, v1 = w2 := ⟨_, rfl⟩
    rw [hw2] at K2 P2 ⊢
    clear hw2
    by_cases hq0 : q = 0
    · have hqb : (q != 0) = false := by rw [hq0]; rfl
      have AX := Lib.hid (AX.out hq0)
      have HQ0 := Lib.hid hq0
      clear AQ hq0
      have CP := Lib.hid (fun V (hv : Bel w2 V) => copy A n c l V (HI.out.bel (K2.out.trans hv)) (by omega))
      go_upto_region 9 with fail
      refine wp_region_held_drew (S := fun Vx => Bel w2 Vx) (by kernel_rfl) (Bel.refl _).drew (fun hS0 => ?_)
      obtain ⟨w6, hw6⟩ : ∃ w6, World.drew w2 = w6 := ⟨_, rfl⟩
      rw [hw6] at hS0 ⊢
      clear hw6
      have H46 := Lib.hid hS0
      refine wpAnyH_take (i := 0) (oi := { dst := some 35, op := .move (.tmp 0), type := 22, pos := "ref.go:89", after := #[], guard := none }) (v := .slice A n c) rfl (by kernel_rfl) (by kernel_rfl) (by kernel_rfl) (fun _ _ _ h => h) (Or.inl ⟨by rfl, by intro w hSw; clear hSw; go_simp⟩) hS0 ?_
      try simp only [Act.put, List.setIfInBounds_toArray, List.set_cons_zero, List.set_cons_succ]
      refine wpAnyH_take (i := 2) (oi := { dst := some 37, op := .load 27 (.tmp 4), type := 27, pos := "ref.go:89", after := #[], guard := none }) (v := .agg #[.int .i64 x1, .int .i64 x2, .int .i64 x3, .int .i64 x4, .int .i64 x5, .int .i64 x6, .int .u64 x7, .int .u64 x8]) rfl (by kernel_rfl) (by kernel_rfl) (by kernel_rfl) (fun _ _ _ h => h) (yieldsIf_load_mid (by rfl) _ _ rfl _ _ rfl _ _ (fun w h => rng_bel (rngB (C := [.int .i64 x1, .int .i64 x2, .int .i64 x3, .int .i64 x4, .int .i64 x5, .int .i64 x6, .int .u64 x7, .int .u64 x8]) P2.out) h) Try.underlying27 rfl info_E) hS0 ?_
      try simp only [Act.put, List.setIfInBounds_toArray, List.set_cons_zero, List.set_cons_succ]
      refine wpAnyH_ready (rs := [1, 3]) (by kernel_rfl) (by simp) ?_
      refine AllReadyH.cons (o := { dst := some 36, op := .call { callee := .value (.func 11), args := #[.tmp 35], argTypes := #[22] }, type := 22, pos := "ref.go:89", after := #[{ on := 0, ground := .data }], guard := none }) rfl (fun K hK => ?_) (AllReadyH.cons (o := { dst := some 38, op := .buildSlice 22 1 #[(0, .tmp 37)], type := 22, pos := "ref.go:89", after := #[{ on := 2, ground := .data }], guard := none }) rfl (fun K hK => ?_) AllReadyH.nil)
      · go_simp
        refine (CP.out _ hS0).mono ?_
        rintro e v1 ⟨vv, rfl, ho, kb⟩
        go_wp2_with fail
        refine hK.out _ _ (hS0.trans kb) (fun hS1 => ?_)
        clear hK K
        try simp only [Act.put, List.setIfInBounds_toArray, List.set_cons_zero, List.set_cons_succ]
        refine wpAnyH_ready (rs := [3]) (by kernel_rfl) (by simp) ?_
        refine AllReadyH.cons (o := { dst := some 38, op := .buildSlice 22 1 #[(0, .tmp 37)], type := 22, pos := "ref.go:89", after := #[{ on := 2, ground := .data }], guard := none }) rfl (fun K hK => ?_) AllReadyH.nil
        go_simp
        refine hK.out _ _ (hS1.alloc _) (fun hS2 => ?_)
        clear hK K
        try simp only [Act.put, List.setIfInBounds_toArray, List.set_cons_zero, List.set_cons_succ]
        have gbb := Blk.new v1 #[.int .i64 x1, .int .i64 x2, .int .i64 x3, .int .i64 x4, .int .i64 x5, .int .i64 x6, .int .u64 x7, .int .u64 x8] 27
        have gbl := Lib.hid (Below.size hS1)
        generalize hvq : World.alloc v1 (Obj.cells #[.int .i64 x1, .int .i64 x2, .int .i64 x3, .int .i64 x4, .int .i64 x5, .int .i64 x6, .int .u64 x7, .int .u64 x8] 27) = v2 at gbb hS2 ⊢
        have gbk : Bel v1 v2 := by rw [← hvq]; exact (Bel.refl _).alloc _
        clear hvq
        obtain ⟨gb, hgq⟩ : ∃ g, (World.heap v1).size = g := ⟨_, rfl⟩
        rw [hgq] at gbb gbl ⊢
        clear hgq
        have gbb := Lib.hid gbb
        refine wpAnyH_ready (rs := [4]) (by kernel_rfl) (by simp) ?_
        refine AllReadyH.cons (o := { dst := some 39, op := .call { callee := .builtin .append, args := #[.tmp 36, .tmp 38], argTypes := #[22, 22] }, type := 22, pos := "ref.go:89", after := #[{ on := 1, ground := .data }, { on := 3, ground := .data }, { on := 1, ground := .chain }], guard := none }) rfl (fun K hK => ?_) AllReadyH.nil
        have HO4 := Lib.hid (show OwnE v2 w2.heap.size vv l from by first | exact (ho.bel gbk).mono (Below.size H46.out) | exact ho.mono (Nat.le_trans (Below.size H46.out) (Below.size gbk)))
        have HX4 := Lib.hid (show Rw.RS eR v2 (some ⟨gb, 0, none⟩) 1 1 [(x1, x2, x3, x4, x5, x6, x7, x8)] from by first | exact Rw.rs_one eR gbb.out | exact Rw.rs_one eR (gbb.out.bel kb))
        obtain ⟨v9, W9, hAP, hOW, hgr⟩ := Rw.run_append_R eR 22 22 27 underE zero_E rfl (by decide) HO4.out HX4.out (by omega) (by have := HLN.out; omega) (Below.size (show Bel w2 v2 from hS2))
        have HB9 := Lib.hid (show Bel w2 W9 from Kk.Bel.grown hS2 hgr (fun k hk => (HO4.out.lt k hk).1))
        have HAP := Lib.hid hAP
        have HOW := Lib.hid (hOW.mono (Below.size K2.out))
        clear hAP hOW hgr
        refine Rw.step_append_run rfl (.tmp 36) (.tmp 38) 22 22 rfl _ _ (by simp [Act.eval, Act.put]) (by simp [Act.eval, Act.put]) HAP.out ?_
        refine hK.out _ _ (HB9.out) (fun hS3 => ?_)
        clear hK K
        try simp only [Act.put, List.setIfInBounds_toArray, List.set_cons_zero, List.set_cons_succ]
        refine wpAnyH_take (i := 5) (oi := { dst := some 11, op := .assign (.tmp 39), type := 22, pos := "ref.go:89", after := #[{ on := 4, ground := .data }, { on := 4, ground := .chain }, { on := 0, ground := .phase }, { on := 1, ground := .phase }, { on := 2, ground := .phase }, { on := 3, ground := .phase }, { on := 4, ground := .phase }], guard := none }) (v := v9) rfl (by kernel_rfl) (by kernel_rfl) (by kernel_rfl) (fun _ _ _ h => h) (Or.inl ⟨by rfl, by intro w hSw; clear hSw; go_simp⟩) hS3 ?_
        try simp only [Act.put, List.setIfInBounds_toArray, List.set_cons_zero, List.set_cons_succ]
        refine wpAnyH_done (by kernel_rfl) ?_ _
        have K5 := Lib.hid (K2.out.trans HB9.out)
        have P5 := Lib.hid (P2.out.bel HB9.out)
        clear CP HB9 P2
        have g4 := P5.out.cell 7 rfl
        have g3 := P5.out.cell 6 rfl
        have g0 := P5.out.cell 0 rfl
        have g1 := P5.out.cell 1 rfl
        by_cases hbi : x8 = x7
        · have hbb : (x8 != x7) = false := by rw [hbi]; simp
          have AX := Lib.hid (AX.out.2 hbi)
          clear hbi
          have LV := Lib.hid (liveR A n c l x1 x2 W9 (HI.out.bel K5.out) (by omega))
          obtain ⟨C, hC⟩ : ∃ C, live l x1 x2 = C := ⟨_, rfl⟩
          have AX := Lib.hid (show (m ≤ C → addE l (x1, x2, x3, x4, x5, x6, x7, x8) m = 22) ∧ ((C : Int) < m → (n = 32768 → addE l (x1, x2, x3, x4, x5, x6, x7, x8) m = 7) ∧ (n ≠ 32768 → (4611686018427387904 < tot l + x8 → addE l (x1, x2, x3, x4, x5, x6, x7, x8) m = 12) ∧ (tot l + x8 ≤ 4611686018427387904 → addE l (x1, x2, x3, x4, x5, x6, x7, x8) m = 0))) from by rw [← hC]; exact AX.out)
          rw [hC] at LV
          clear hC
          go_wp2_with fail
          refine LV.out.mono ?_
          rintro e w3 ⟨rfl, kb⟩
          have K3 := Lib.hid (K5.out.trans kb)
          have P3 := Lib.hid (P5.out.bel kb)
          have HO3 := Lib.hid (HOW.out.bel kb)
          clear kb LV P5 g0 g1 g3 g4
          by_cases hc : m ≤ (C : Int)
          · have HE := Lib.hid (AX.out.1 hc)
            clear AX
            go_wp2_with fail
            go_ret2
            exact FIN.out _ 22 K3.out HE.out (by decide)
          have AX := Lib.hid (AX.out.2 (Int.not_le.1 hc))
          have hc' : ¬ ((C : Int) ≥ m) := by omega
          by_cases hl : n = 32768
          · have HE := Lib.hid (AX.out.1 hl)
            have hl3 : ((32768 : Int) ≤ (n : Int)) := by omega
            clear AX
            go_wp2_with fail
            go_ret2
            exact FIN.out _ 7 K3.out HE.out (by decide)
          have AX := Lib.hid (AX.out.2 hl)
          have hl3 : decide ((32768 : Int) ≤ (n : Int)) = false := decide_eq_false (by have := (chk_ok.1 HE1.out).1; have := HLN.out; omega)
          have HT := Lib.hid (show 0 ≤ tot l ∧ tot l ≤ 4611686018427387904 from ⟨tot_pos HW.out, (chk_ok.1 HE1.out).2.2⟩)
          clear hl
          go_upto_region 16 with fail
          obtain ⟨A', c', rfl, hrs, _⟩ := HO3.out.rs eR
          have hln : (l ++ [(x1, x2, x3, x4, x5, x6, x7, x8)]).length = n + 1 := by rw [List.length_append, HLN.out]; rfl
          rw [hln] at hrs ⊢
          have HRS := Lib.hid hrs
          have HWX := Lib.hid (show Wd (l ++ [(x1, x2, x3, x4, x5, x6, x7, x8)]) from fun r hr => by
            rcases List.mem_append.1 hr with h | h
            · exact HW.out r h
            · rw [List.mem_singleton.1 h]; exact HX.out)
          have SU := Lib.hid (sumR A' (n + 1) c' (l ++ [(x1, x2, x3, x4, x5, x6, x7, x8)]) w3 hrs (by omega) HWX.out)
          have HTT := Lib.hid (show tot (l ++ [(x1, x2, x3, x4, x5, x6, x7, x8)]) = tot l + x8 from by rw [tot_app]; show tot l + (x8 + 0) = _; omega)
          clear hrs hln
          by_cases ho : 4611686018427387904 < tot l + x8
          · have HE := Lib.hid (AX.out.1 ho)
            rw [show sumP (l ++ [(x1, x2, x3, x4, x5, x6, x7, x8)]) = (0, false) from if_pos (by rw [HTT.out]; exact ho)] at SU
            clear AX ho HTT HT
            go_wp2_with fail
            refine SU.out.mono ?_
            rintro e w4 ⟨rfl, kb⟩
            have K4 := Lib.hid (K3.out.trans kb)
            clear kb SU
            go_wp2_with fail
            go_ret2
            exact FIN.out _ 12 K4.out HE.out (by decide)
          · have HE := Lib.hid (AX.out.2 (Int.not_lt.1 ho))
            rw [show sumP (l ++ [(x1, x2, x3, x4, x5, x6, x7, x8)]) = (tot (l ++ [(x1, x2, x3, x4, x5, x6, x7, x8)]), true) from if_neg (by rw [HTT.out]; exact ho)] at SU
            obtain ⟨t, ht⟩ : ∃ t, tot (l ++ [(x1, x2, x3, x4, x5, x6, x7, x8)]) = t := ⟨_, rfl⟩
            rw [ht] at SU
            clear AX ho HTT HT ht
            go_wp2_with fail
            refine SU.out.mono ?_
            rintro e w4 ⟨rfl, kb⟩
            have K4 := Lib.hid (K3.out.trans kb)
            have HO4 := Lib.hid (HO3.out.bel kb)
            clear kb SU
            go_wp2_with fail
            go_ret2
            refine ⟨_, by rw [HE.out]; rfl, ?_, K4.out⟩
            rw [addL_eq HE.out]
            have h5 := HO4.out
            rw [show (l ++ [(x1, x2, x3, x4, x5, x6, x7, x8)]).length = n + 1 from by rw [List.length_append, HLN.out]; rfl] at h5
            exact h5
        · have HE := Lib.hid (AX.out.1 hbi)
          have hbb : (x8 != x7) = true := by rw [bne_iff_ne]; exact hbi
          clear AX hbi
          go_wp2_with fail
          go_ret2
          exact FIN.out _ 11 K5.out HE.out (by decide)
      · go_simp
        refine hK.out _ _ (hS0.alloc _) (fun hS1 => ?_)
        clear hK K
        try simp only [Act.put, List.setIfInBounds_toArray, List.set_cons_zero, List.set_cons_succ]
        have gbb := Blk.new w6 #[.int .i64 x1, .int .i64 x2, .int .i64 x3, .int .i64 x4, .int .i64 x5, .int .i64 x6, .int .u64 x7, .int .u64 x8] 27
        have gbl := Lib.hid (Below.size hS0)
        generalize hvq : World.alloc w6 (Obj.cells #[.int .i64 x1, .int .i64 x2, .int .i64 x3, .int .i64 x4, .int .i64 x5, .int .i64 x6, .int .u64 x7, .int .u64 x8] 27) = v1 at gbb hS1 ⊢
        have gbk : Bel w6 v1 := by rw [← hvq]; exact (Bel.refl _).alloc _
        clear hvq
        obtain ⟨gb, hgq⟩ : ∃ g, (World.heap w6).size = g := ⟨_, rfl⟩
        rw [hgq] at gbb gbl ⊢
        clear hgq
        have gbb := Lib.hid gbb
        refine wpAnyH_ready (rs := [1]) (by kernel_rfl) (by simp) ?_
        refine AllReadyH.cons (o := { dst := some 36, op := .call { callee := .value (.func 11), args := #[.tmp 35], argTypes := #[22] }, type := 22, pos := "ref.go:89", after := #[{ on := 0, ground := .data }], guard := none }) rfl (fun K hK => ?_) AllReadyH.nil
        go_simp
        refine (CP.out _ hS1).mono ?_
        rintro e v2 ⟨vv, rfl, ho, kb⟩
        go_wp2_with fail
        refine hK.out _ _ (hS1.trans kb) (fun hS2 => ?_)
        clear hK K
        try simp only [Act.put, List.setIfInBounds_toArray, List.set_cons_zero, List.set_cons_succ]
        refine wpAnyH_ready (rs := [4]) (by kernel_rfl) (by simp) ?_
        refine AllReadyH.cons (o := { dst := some 39, op := .call { callee := .builtin .append, args := #[.tmp 36, .tmp 38], argTypes := #[22, 22] }, type := 22, pos := "ref.go:89", after := #[{ on := 1, ground := .data }, { on := 3, ground := .data }, { on := 1, ground := .chain }], guard := none }) rfl (fun K hK => ?_) AllReadyH.nil
        have HO4 := Lib.hid (show OwnE v2 w2.heap.size vv l from by first | exact (ho.bel gbk).mono (Below.size H46.out) | exact ho.mono (Nat.le_trans (Below.size H46.out) (Below.size gbk)))
        have HX4 := Lib.hid (show Rw.RS eR v2 (some ⟨gb, 0, none⟩) 1 1 [(x1, x2, x3, x4, x5, x6, x7, x8)] from by first | exact Rw.rs_one eR gbb.out | exact Rw.rs_one eR (gbb.out.bel kb))
        obtain ⟨v9, W9, hAP, hOW, hgr⟩ := Rw.run_append_R eR 22 22 27 underE zero_E rfl (by decide) HO4.out HX4.out (by omega) (by have := HLN.out; omega) (Below.size (show Bel w2 v2 from hS2))
        have HB9 := Lib.hid (show Bel w2 W9 from Kk.Bel.grown hS2 hgr (fun k hk => (HO4.out.lt k hk).1))
        have HAP := Lib.hid hAP
        have HOW := Lib.hid (hOW.mono (Below.size K2.out))
        clear hAP hOW hgr
        refine Rw.step_append_run rfl (.tmp 36) (.tmp 38) 22 22 rfl _ _ (by simp [Act.eval, Act.put]) (by simp [Act.eval, Act.put]) HAP.out ?_
        refine hK.out _ _ (HB9.out) (fun hS3 => ?_)
        clear hK K
        try simp only [Act.put, List.setIfInBounds_toArray, List.set_cons_zero, List.set_cons_succ]
        refine wpAnyH_take (i := 5) (oi := { dst := some 11, op := .assign (.tmp 39), type := 22, pos := "ref.go:89", after := #[{ on := 4, ground := .data }, { on := 4, ground := .chain }, { on := 0, ground := .phase }, { on := 1, ground := .phase }, { on := 2, ground := .phase }, { on := 3, ground := .phase }, { on := 4, ground := .phase }], guard := none }) (v := v9) rfl (by kernel_rfl) (by kernel_rfl) (by kernel_rfl) (fun _ _ _ h => h) (Or.inl ⟨by rfl, by intro w hSw; clear hSw; go_simp⟩) hS3 ?_
        try simp only [Act.put, List.setIfInBounds_toArray, List.set_cons_zero, List.set_cons_succ]
        refine wpAnyH_done (by kernel_rfl) ?_ _
        have K5 := Lib.hid (K2.out.trans HB9.out)
        have P5 := Lib.hid (P2.out.bel HB9.out)
        clear CP HB9 P2
        have g4 := P5.out.cell 7 rfl
        have g3 := P5.out.cell 6 rfl
        have g0 := P5.out.cell 0 rfl
        have g1 := P5.out.cell 1 rfl
        by_cases hbi : x8 = x7
        · have hbb : (x8 != x7) = false := by rw [hbi]; simp
          have AX := Lib.hid (AX.out.2 hbi)
          clear hbi
          have LV := Lib.hid (liveR A n c l x1 x2 W9 (HI.out.bel K5.out) (by omega))
          obtain ⟨C, hC⟩ : ∃ C, live l x1 x2 = C := ⟨_, rfl⟩
          have AX := Lib.hid (show (m ≤ C → addE l (x1, x2, x3, x4, x5, x6, x7, x8) m = 22) ∧ ((C : Int) < m → (n = 32768 → addE l (x1, x2, x3, x4, x5, x6, x7, x8) m = 7) ∧ (n ≠ 32768 → (4611686018427387904 < tot l + x8 → addE l (x1, x2, x3, x4, x5, x6, x7, x8) m = 12) ∧ (tot l + x8 ≤ 4611686018427387904 → addE l (x1, x2, x3, x4, x5, x6, x7, x8) m = 0))) from by rw [← hC]; exact AX.out)
          rw [hC] at LV
          clear hC
          go_wp2_with fail
          refine LV.out.mono ?_
          rintro e w3 ⟨rfl, kb⟩
          have K3 := Lib.hid (K5.out.trans kb)
          have P3 := Lib.hid (P5.out.bel kb)
          have HO3 := Lib.hid (HOW.out.bel kb)
          clear kb LV P5 g0 g1 g3 g4
          by_cases hc : m ≤ (C : Int)
          · have HE := Lib.hid (AX.out.1 hc)
            clear AX
            go_wp2_with fail
            go_ret2
            exact FIN.out _ 22 K3.out HE.out (by decide)
          have AX := Lib.hid (AX.out.2 (Int.not_le.1 hc))
          have hc' : ¬ ((C : Int) ≥ m) := by omega
          by_cases hl : n = 32768
          · have HE := Lib.hid (AX.out.1 hl)
            have hl3 : ((32768 : Int) ≤ (n : Int)) := by omega
            clear AX
            go_wp2_with fail
            go_ret2
            exact FIN.out _ 7 K3.out HE.out (by decide)
          have AX := Lib.hid (AX.out.2 hl)
          have hl3 : decide ((32768 : Int) ≤ (n : Int)) = false := decide_eq_false (by have := (chk_ok.1 HE1.out).1; have := HLN.out; omega)
          have HT := Lib.hid (show 0 ≤ tot l ∧ tot l ≤ 4611686018427387904 from ⟨tot_pos HW.out, (chk_ok.1 HE1.out).2.2⟩)
          clear hl
          go_upto_region 16 with fail
          obtain ⟨A', c', rfl, hrs, _⟩ := HO3.out.rs eR
          have hln : (l ++ [(x1, x2, x3, x4, x5, x6, x7, x8)]).length = n + 1 := by rw [List.length_append, HLN.out]; rfl
          rw [hln] at hrs ⊢
          have HRS := Lib.hid hrs
          have HWX := Lib.hid (show Wd (l ++ [(x1, x2, x3, x4, x5, x6, x7, x8)]) from fun r hr => by
            rcases List.mem_append.1 hr with h | h
            · exact HW.out r h
            · rw [List.mem_singleton.1 h]; exact HX.out)
          have SU := Lib.hid (sumR A' (n + 1) c' (l ++ [(x1, x2, x3, x4, x5, x6, x7, x8)]) w3 hrs (by omega) HWX.out)
          have HTT := Lib.hid (show tot (l ++ [(x1, x2, x3, x4, x5, x6, x7, x8)]) = tot l + x8 from by rw [tot_app]; show tot l + (x8 + 0) = _; omega)
          clear hrs hln
          by_cases ho : 4611686018427387904 < tot l + x8
          · have HE := Lib.hid (AX.out.1 ho)
            rw [show sumP (l ++ [(x1, x2, x3, x4, x5, x6, x7, x8)]) = (0, false) from if_pos (by rw [HTT.out]; exact ho)] at SU
            clear AX ho HTT HT
            go_wp2_with fail
            refine SU.out.mono ?_
            rintro e w4 ⟨rfl, kb⟩
            have K4 := Lib.hid (K3.out.trans kb)
            clear kb SU
            go_wp2_with fail
            go_ret2
            exact FIN.out _ 12 K4.out HE.out (by decide)
          · have HE := Lib.hid (AX.out.2 (Int.not_lt.1 ho))
            rw [show sumP (l ++ [(x1, x2, x3, x4, x5, x6, x7, x8)]) = (tot (l ++ [(x1, x2, x3, x4, x5, x6, x7, x8)]), true) from if_neg (by rw [HTT.out]; exact ho)] at SU
            obtain ⟨t, ht⟩ : ∃ t, tot (l ++ [(x1, x2, x3, x4, x5, x6, x7, x8)]) = t := ⟨_, rfl⟩
            rw [ht] at SU
            clear AX ho HTT HT ht
            go_wp2_with fail
            refine SU.out.mono ?_
            rintro e w4 ⟨rfl, kb⟩
            have K4 := Lib.hid (K3.out.trans kb)
            have HO4 := Lib.hid (HO3.out.bel kb)
            clear kb SU
            go_wp2_with fail
            go_ret2
            refine ⟨_, by rw [HE.out]; rfl, ?_, K4.out⟩
            rw [addL_eq HE.out]
            have h5 := HO4.out
            rw [show (l ++ [(x1, x2, x3, x4, x5, x6, x7, x8)]).length = n + 1 from by rw [List.length_append, HLN.out]; rfl] at h5
            exact h5
        · have HE := Lib.hid (AX.out.1 hbi)
          have hbb : (x8 != x7) = true := by rw [bne_iff_ne]; exact hbi
          clear AX hbi
          go_wp2_with fail
          go_ret2
          exact FIN.out _ 11 K5.out HE.out (by decide)
    · have HE := Lib.hid (AQ.out hq0)
      have hqb : (q != 0) = true := by rw [bne_iff_ne]; exact hq0
      have H0 := Lib.hid hq0
      clear AQ AX hq0
      go_wp2_with fail
      go_ret2
      exact FIN.out _ q K2.out HE.out H0.out
  · have HE := Lib.hid (AW.out.1 h0)
    have hne : (e1 != 0) = true := by rw [bne_iff_ne]; exact h0
    have H0 := Lib.hid h0
    clear h0
    go_wp2_with fail
    go_ret2
    exact FIN.out _ e1 K1.out HE.out H0.out
end Qu
end Go.Proofs.Ytdpompponngmdaa
end
