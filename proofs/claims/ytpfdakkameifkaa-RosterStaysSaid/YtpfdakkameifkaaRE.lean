/-
  Texts of this claim, put together: Ro12, Ro13. What each one says, and under which conditions, stands ahead of it.
-/
import Derived.Test.YtpfdakkameifkaaRD

section
/-
  What the reference's Find, one, Check, Refuse and Create answer of any list of validators. Conditions: at most a billion validators.
-/
namespace Go.Proofs.Ytpfdakkameifkaa
open Go.RowKit Go.Shelf
set_option linter.unusedVariables false
set_option linter.unusedSimpArgs false
namespace Ro
open Kk Pm

theorem slice_h (A : Option Addr) (n c : Nat) (h : Int) (w : World) (h0 : 0 ≤ h) (h2 : h ≤ c) :
    (Instr.slice 22 (.slice A n c) none (some (.int .i64 h)) none).run Try.prog w = .ok (.slice A h.toNat c) w := by
  rw [run_slice_h (P := Try.prog) (w := w) (t := 22) (a := A) (len := n) (cap := c) (by rw [elemV]; exact underV) .i64 h h0 h2, elemV]
  simp only [sizeV, Result.andThen, sliced, Nat.zero_mul, Nat.sub_zero]
  split
  · rfl
  · cases A <;> simp [Addr.add]
set_option maxRecDepth 100000 in
set_option maxHeartbeats 2000000 in
theorem findR (A : Option Addr) (n c : Nat) (l : List V6) (o : Int) (w : World) (hi : Rw.RS vR w A n c l) (hn : n ≤ 1000000000) :
    Calls Try.prog 18 #[.slice A n c, .int .i64 o] w fun e w' => e = .returned (.tuple #[.int .i64 ((fnd l o).getD 0 : Nat), .bool (fnd l o).isSome]) ∧ w = w' := by
  have HR := Lib.hid hi
  have HL := Lib.hid hi.len
  clear hi
  obtain ⟨R, hR⟩ : ∃ R, fnd l o = R := ⟨_, rfl⟩
  rw [hR]
  have HRR := Lib.hid hR
  clear hR
  go_enter Try.func18, Try.ntmps18
  go_wp2_with fail
  go_loopw [4, 5, 6] (fun s4 s5 s6 wr => ∃ k : Nat, k ≤ n ∧ s6 = .int .i64 k ∧ s4 = .int .i64 0 ∧ s5 = .bool false ∧ w = wr ∧ Hid (fnd (l.take k) o = none)) (fun _ _ s6 _ => n - (intOf s6).toNat)
  case atStart => exact ⟨0, Nat.zero_le _, rfl, rfl, rfl, rfl, Lib.hid rfl⟩
  case round =>
    obtain ⟨k, hk, rfl, rfl, rfl, rfl, hz⟩ := hrel
    by_cases hlt : k < n
    · obtain ⟨⟨r1, r2, r3, r4, r5, r6⟩, hr⟩ := HR.out.get hlt
      obtain ⟨b, q, rfl, hb, hrow⟩ := HR.out.at hlt hr
      have HNX := Lib.hid (show fnd (l.take (k + 1)) o = if r1 = o then some k else none by rw [fnd_take hr, hz.out]; rfl)
      have hlt3 : (k : Int) < n := by omega
      have hlt0 : (0 : Int) ≤ k := by omega
      obtain ⟨c0, c1, c2, c3, c4, c5⟩ := rng6 (show w.rangeAt b (q + k * 6) [.int .i64 r1, .int .u64 r2, .int .i64 r3, .int .i64 r4, .bool r5, .bool r6] from hrow)
      clear hr hrow
      by_cases ho : r1 = o
      · subst ho
        have HF := Lib.hid (show some k = R from (fnd_stay (HNX.out.trans (if_pos rfl))).symm.trans HRR.out)
        have hf := HF.out
        subst hf
        have hob : (r1 == r1) = true := beq_self_eq_true r1
        go_wp2_with fail
        (try rw [Exit.noGoto_ret])
        go_ret2
        first | exact ⟨rfl, rfl⟩ | (constructor <;> first | rfl | trivial | simp) | trivial | trace_state
      · have hob : (r1 == o) = false := beq_eq_false_iff_ne.2 ho
        have HN := Lib.hid (HNX.out.trans (if_neg ho))
        clear ho
        go_wp2_with fail
        go_roundw
        case rel => exact ⟨k + 1, by omega, by go_num, rfl, rfl, by first | rfl | trivial, HN⟩
        case measure => simp [intOf]; omega
    · obtain rfl : k = n := by omega
      obtain rfl : none = R := by
        have := hz.out
        rw [List.take_of_length_le (by rw [HL.out]; exact Nat.le_refl _)] at this
        exact this.symm.trans HRR.out
      go_wp2_with fail
      (try rw [Exit.noGoto_ret])
      go_ret2
      first | exact ⟨rfl, rfl⟩ | (constructor <;> first | rfl | trivial | simp) | trivial | trace_state
set_option maxRecDepth 100000 in
set_option maxHeartbeats 8000000 in
theorem oneR (A : Option Addr) (n c : Nat) (l : List V6) (x1 x2 x3 x4 : Int) (x5 x6 : Bool) (w : World) (hi : Rw.RS vR w A n c l) (hn : n ≤ 1000000000) :
    Calls Try.prog 57 #[.agg #[.int .i64 x1, .int .u64 x2, .int .i64 x3, .int .i64 x4, .bool x5, .bool x6], .slice A n c] w fun e w' => e = .returned (.int .i64 (vE (has l x1) (x1, x2, x3, x4, x5, x6))) ∧ Bel w w' := by
  have P0 := Lib.hid (Blk.new w #[.int .i64 x1, .int .u64 x2, .int .i64 x3, .int .i64 x4, .bool x5, .bool x6] 66)
  obtain ⟨V, hV⟩ : ∃ V, w.alloc (.cells #[.int .i64 x1, .int .u64 x2, .int .i64 x3, .int .i64 x4, .bool x5, .bool x6] 66) = V := ⟨_, rfl⟩
  have BV := Lib.hid (show Bel w V by rw [← hV]; exact (Bel.refl w).alloc _)
  rw [hV] at P0
  have FD := Lib.hid (findR A n c l x1 V (hi.bel BV.out) hn)
  obtain ⟨h, hh⟩ : ∃ h, has l x1 = h := ⟨_, rfl⟩
  obtain ⟨j, hj⟩ : ∃ j, (fnd l x1).getD 0 = j := ⟨_, rfl⟩
  rw [show (fnd l x1).isSome = h from hh, hj] at FD
  rw [hh]
  obtain ⟨R, hR⟩ : ∃ R, vE h (x1, x2, x3, x4, x5, x6) = R := ⟨_, rfl⟩
  rw [hR]
  have HR := Lib.hid hR
  have HV := Lib.hid hV
  clear hR hh hj hi hV
  have c0 := P0.out.cell 0 rfl
  have c1 := P0.out.cell 1 rfl
  have c2 := P0.out.cell 2 rfl
  have c3 := P0.out.cell 3 rfl
  have c4 := P0.out.cell 4 rfl
  have c5 := P0.out.cell 5 rfl
  go_enter Try.func57, Try.ntmps57
  go_upto_region 1 with fail
  try rw [HV.out]
  obtain ⟨g, hg⟩ : ∃ g, w.heap.size = g := ⟨_, rfl⟩
  rw [hg] at P0 c0 c1 c2 c3 c4 c5 ⊢
  clear hg
  by_cases q0 : x1 < 0
  · obtain rfl : 3 = R := (vE_3 (decide_eq_false (by omega))).symm.trans HR.out
    clear FD
    go_wp2_with fail
    (try rw [Exit.noGoto_ret])
    go_ret
    exact ⟨rfl, BV.out⟩
  by_cases q1 : 64 ≤ x1
  · obtain rfl : 3 = R := (vE_3 (decide_eq_false (by omega))).symm.trans HR.out
    have q1b : x1 ≥ 64 := q1
    clear FD
    go_wp2_with fail
    (try rw [Exit.noGoto_ret])
    go_ret
    exact ⟨rfl, BV.out⟩
  have q1b : ¬ x1 ≥ 64 := q1
  by_cases q2 : x3 < 1
  · obtain rfl : 3 = R := (vE_3 (decide_eq_false (by omega))).symm.trans HR.out
    clear FD
    go_wp2_with fail
    (try rw [Exit.noGoto_ret])
    go_ret
    exact ⟨rfl, BV.out⟩
  by_cases q3 : 4 < x3
  · obtain rfl : 3 = R := (vE_3 (decide_eq_false (by omega))).symm.trans HR.out
    clear FD
    go_wp2_with fail
    (try rw [Exit.noGoto_ret])
    go_ret
    exact ⟨rfl, BV.out⟩
  by_cases q4 : x4 < 0
  · obtain rfl : 3 = R := (vE_3 (decide_eq_false (by omega))).symm.trans HR.out
    clear FD
    go_wp2_with fail
    (try rw [Exit.noGoto_ret])
    go_ret
    exact ⟨rfl, BV.out⟩
  by_cases q5 : 4296015872 < x4
  · obtain rfl : 3 = R := (vE_3 (decide_eq_false (by omega))).symm.trans HR.out
    clear FD
    go_wp2_with fail
    (try rw [Exit.noGoto_ret])
    go_ret
    exact ⟨rfl, BV.out⟩
  have HRG := Lib.hid (show rngB x1 x3 x4 = true from decide_eq_true (by omega))
  by_cases hm : x2 = 0
  · obtain rfl : 2 = R := (vE_2 HRG.out hm).symm.trans HR.out
    subst hm
    clear FD
    go_wp2_with fail
    (try rw [Exit.noGoto_ret])
    go_ret
    exact ⟨rfl, BV.out⟩
  have em : (x2 == 0) = false := beq_eq_false_iff_ne.2 hm
  have HM := Lib.hid hm
  clear hm
  cases h with
  | true =>
    obtain rfl : 8 = R := (vE_8 HRG.out HM.out rfl).symm.trans HR.out
    go_wp2_with fail
    refine FD.out.mono ?_
    rintro e w2 ⟨rfl, rfl⟩
    go_wp2_with fail
    (try rw [Exit.noGoto_ret])
    go_ret
    exact ⟨rfl, BV.out⟩
  | false =>
    have HG : ∀ z, agrB x3 x4 x5 x6 = z → R = if z = false then 11 else 0 := fun z hz => by
      cases z
      · exact HR.out.symm.trans (vE_11 HRG.out HM.out rfl hz)
      · exact HR.out.symm.trans (vE_0 HRG.out HM.out rfl hz)
    have HG := Lib.hid HG
    go_wp2_with fail
    refine FD.out.mono ?_
    rintro e w2 ⟨rfl, rfl⟩
    go_upto_region 8 with fail
    clear FD em q0 q1 q1b q2 q3 q4 q5 c0 c1
    by_cases h4 : x3 = 4
    · subst h4
      by_cases h0 : x4 = 0
      · subst h0
        cases x5 <;> cases x6 <;> (have hR := HG.out _ rfl; simp [agrB] at hR; replace hR := Lib.hid hR; clear HG HR; go_wp2_with fail; (try rw [Exit.noGoto_ret]); go_ret; exact ⟨by rw [hR.out]; rfl, BV.out⟩)
      · have e0 : (x4 == 0) = false := beq_eq_false_iff_ne.2 h0
        cases x5 <;> cases x6 <;> (have hR := HG.out _ rfl; simp [agrB, h0] at hR; replace hR := Lib.hid hR; clear HG HR h0; go_wp2_with fail; (try rw [Exit.noGoto_ret]); go_ret; exact ⟨by rw [hR.out]; rfl, BV.out⟩)
    · have e4 : (x3 == 4) = false := beq_eq_false_iff_ne.2 h4
      by_cases h3 : x3 = 3
      · subst h3
        by_cases h0 : x4 = 0
        · subst h0
          cases x5 <;> cases x6 <;> (have hR := HG.out _ rfl; simp [agrB] at hR; replace hR := Lib.hid hR; clear HG HR h4; go_wp2_with fail; (try rw [Exit.noGoto_ret]); go_ret; exact ⟨by rw [hR.out]; rfl, BV.out⟩)
        · have e0 : (x4 == 0) = false := beq_eq_false_iff_ne.2 h0
          cases x5 <;> cases x6 <;> (have hR := HG.out _ rfl; simp [agrB, h0] at hR; replace hR := Lib.hid hR; clear HG HR h0 h4; go_wp2_with fail; (try rw [Exit.noGoto_ret]); go_ret; exact ⟨by rw [hR.out]; rfl, BV.out⟩)
      · have e3 : (x3 == 3) = false := beq_eq_false_iff_ne.2 h3
        by_cases h0 : x4 = 0
        · subst h0
          cases x5 <;> cases x6 <;> (have hR := HG.out _ rfl; simp [agrB, h4, h3] at hR; replace hR := Lib.hid hR; clear HG HR h4 h3; go_wp2_with fail; (try rw [Exit.noGoto_ret]); go_ret; exact ⟨by rw [hR.out]; rfl, BV.out⟩)
        · have e0 : (x4 == 0) = false := beq_eq_false_iff_ne.2 h0
          cases x5 <;> cases x6 <;> (have hR := HG.out _ rfl; simp [agrB, h4, h3, h0] at hR; replace hR := Lib.hid hR; clear HG HR h4 h3 h0; go_wp2_with fail; (try rw [Exit.noGoto_ret]); go_ret; exact ⟨by rw [hR.out]; rfl, BV.out⟩)
set_option maxRecDepth 100000 in
set_option maxHeartbeats 8000000 in
theorem checkR (A : Option Addr) (n c : Nat) (l : List V6) (w : World) (hi : Rw.RS vR w A n c l) (hn : n ≤ 1000000000) :
    Calls Try.prog 16 #[.slice A n c] w fun e w' => e = .returned (.tuple #[.int .i64 (chk l).1, .int .i64 (chk l).2]) ∧ Bel w w' := by
  have HR := Lib.hid hi
  have HL := Lib.hid hi.len
  clear hi
  by_cases hlong : 32 < n
  · have e : chk l = (4, 32) := chk_long (by rw [HL.out]; exact hlong)
    rw [e]
    clear e
    have hlong3 : (32 : Int) < n := by omega
    go_enter Try.func16, Try.ntmps16
    go_wp2_with fail
    (try rw [Exit.noGoto_ret])
    go_ret2
    exact ⟨rfl, Bel.refl _⟩
  have HCA := Lib.hid (fun k (h1 : ∀ i, i < k → eA l i = 0) (hk : k < n) (h0 : eA l k ≠ 0) => chk_at (l := l) (k := k) (by rw [HL.out]; exact hlong) h1 (by rw [HL.out]; exact hk) h0)
  have HCE := Lib.hid (fun (h1 : ∀ i, i < n → eA l i = 0) => chk_end (l := l) (by rw [HL.out]; exact hlong) (by rw [HL.out]; exact h1))
  obtain ⟨R, hRR⟩ : ∃ R, chk l = R := ⟨_, rfl⟩
  rw [hRR] at HCA HCE ⊢
  clear hRR
  have hlong3 : ¬ (32 : Int) < n := by omega
  go_enter Try.func16, Try.ntmps16
  go_wp2_with fail
  go_loopw [2, 3, 4] (fun s2 s3 s4 wr => ∃ k : Nat, k ≤ n ∧ s4 = .int .i64 k ∧ s2 = .int .i64 0 ∧ s3 = .int .i64 0 ∧ Hid ((∀ j, j < k → eA l j = 0) ∧ Bel w wr)) (fun _ _ s4 _ => n - (intOf s4).toNat)
  case atStart => exact ⟨0, Nat.zero_le _, rfl, rfl, rfl, Lib.hid ⟨fun j hj => absurd hj (by omega), Bel.refl _⟩⟩
  case round =>
    obtain ⟨k, hk, rfl, rfl, rfl, hh⟩ := hrel
    by_cases hlt : k < n
    · obtain ⟨⟨r1, r2, r3, r4, r5, r6⟩, hr⟩ := HR.out.get hlt
      have HRW := Lib.hid (HR.out.bel hh.out.2)
      obtain ⟨b, o, rfl, hb, hrow⟩ := HRW.out.at hlt hr
      have hEA := eA_at hr
      have hlt3 : (k : Int) < n := by omega
      have hlt0 : (0 : Int) ≤ k := by omega
      obtain ⟨z, hz⟩ : ∃ z, vE (has (l.take k) r1) (r1, r2, r3, r4, r5, r6) = z := ⟨_, rfl⟩
      have HEZ := Lib.hid (show eA l k = z from hEA.trans hz)
      have ON := Lib.hid (fun V (hv : Bel wr V) => show Calls Try.prog 57 #[.agg #[.int .i64 r1, .int .u64 r2, .int .i64 r3, .int .i64 r4, .bool r5, .bool r6], .slice (some ⟨b, o, none⟩) k c] V fun e w' => e = .returned (.int .i64 z) ∧ Bel V w' by rw [← hz]; exact oneR (some ⟨b, o, none⟩) k c (l.take k) r1 r2 r3 r4 r5 r6 V ((HRW.out.bel hv).part hk) (by omega))
      have HC := Lib.hid (show wr.rangeAt b (o + k * 6) [.int .i64 r1, .int .u64 r2, .int .i64 r3, .int .i64 r4, .bool r5, .bool r6] from hrow)
      have hkc : (k : Int) ≤ c := by have := HR.out.cap; omega
      have hsl := fun V => slice_h (some ⟨b, o, none⟩) n c k V hlt0 hkc
      simp only [Int.toNat_natCast] at hsl
      clear hr hrow hEA hz
      go_upto_region 6 with fail
      refine wp_region_held_drew (S := fun Vx => Bel wr Vx) (by kernel_rfl) (Bel.refl _).drew (fun hS0 => ?_)
      obtain ⟨w6, hw6⟩ : ∃ w6, World.drew wr = w6 := ⟨_, rfl⟩
      rw [hw6] at hS0 ⊢
      clear hw6
      refine wpAnyH_take (i := 0) (oi := { dst := some 15, op := .move (.tmp 0), type := 22, pos := "ref.go:48", after := #[], guard := none }) (v := .slice (some ⟨b, o, none⟩) n c) rfl (by kernel_rfl) (by kernel_rfl) (by kernel_rfl) (fun _ _ _ h => h) (Or.inl ⟨by rfl, by intro w hSw; clear hSw; go_simp⟩) hS0 ?_
      try simp only [Act.put, List.setIfInBounds_toArray, List.set_cons_zero, List.set_cons_succ]
      refine wpAnyH_take (i := 1) (oi := { dst := some 16, op := .move (.tmp 4), type := 3, pos := "ref.go:48", after := #[], guard := none }) (v := .int .i64 k) rfl (by kernel_rfl) (by kernel_rfl) (by kernel_rfl) (fun _ _ _ h => h) (Or.inl ⟨by rfl, by intro w hSw; clear hSw; go_simp⟩) hS0 ?_
      try simp only [Act.put, List.setIfInBounds_toArray, List.set_cons_zero, List.set_cons_succ]
      refine wpAnyH_take (i := 2) (oi := { dst := some 17, op := .indexAddr 22 (.tmp 15) (.tmp 16), type := 0, pos := "ref.go:48", after := #[{ on := 0, ground := .data }, { on := 1, ground := .data }], guard := none }) (v := .pointer (some ⟨b, o + k * 6, none⟩)) rfl (by kernel_rfl) (by kernel_rfl) (by kernel_rfl) (fun _ _ _ h => h) (Or.inl ⟨by rfl, by intro w hSw; clear hSw; go_simp⟩) hS0 ?_
      try simp only [Act.put, List.setIfInBounds_toArray, List.set_cons_zero, List.set_cons_succ]
      refine wpAnyH_take (i := 3) (oi := { dst := some 18, op := .load 66 (.tmp 17), type := 66, pos := "ref.go:48", after := #[{ on := 2, ground := .data }], guard := none }) (v := .agg #[.int .i64 r1, .int .u64 r2, .int .i64 r3, .int .i64 r4, .bool r5, .bool r6]) rfl (by kernel_rfl) (by kernel_rfl) (by kernel_rfl) (fun _ _ _ h => h) (yieldsIf_load_mid (by rfl) _ _ rfl _ _ rfl _ _ (fun w h => rng_bel HC.out h) Try.underlying66 rfl info_v) hS0 ?_
      try simp only [Act.put, List.setIfInBounds_toArray, List.set_cons_zero, List.set_cons_succ]
      refine wpAnyH_take (i := 4) (oi := { dst := some 19, op := .move (.tmp 0), type := 22, pos := "ref.go:48", after := #[], guard := none }) (v := .slice (some ⟨b, o, none⟩) n c) rfl (by kernel_rfl) (by kernel_rfl) (by kernel_rfl) (fun _ _ _ h => h) (Or.inl ⟨by rfl, by intro w hSw; clear hSw; go_simp⟩) hS0 ?_
      try simp only [Act.put, List.setIfInBounds_toArray, List.set_cons_zero, List.set_cons_succ]
      refine wpAnyH_take (i := 5) (oi := { dst := some 20, op := .move (.tmp 4), type := 3, pos := "ref.go:48", after := #[], guard := none }) (v := .int .i64 k) rfl (by kernel_rfl) (by kernel_rfl) (by kernel_rfl) (fun _ _ _ h => h) (Or.inl ⟨by rfl, by intro w hSw; clear hSw; go_simp⟩) hS0 ?_
      try simp only [Act.put, List.setIfInBounds_toArray, List.set_cons_zero, List.set_cons_succ]
      refine wpAnyH_take (i := 6) (oi := { dst := some 21, op := .slice 22 (.tmp 19) none (some (.tmp 20)) none, type := 22, pos := "ref.go:48", after := #[{ on := 4, ground := .data }, { on := 5, ground := .data }], guard := none }) (v := .slice (some ⟨b, o, none⟩) k c) rfl (by kernel_rfl) (by kernel_rfl) (by kernel_rfl) (fun _ _ _ h => h) (Or.inl ⟨by rfl, by intro w hSw; clear hSw; go_simp⟩) hS0 ?_
      try simp only [Act.put, List.setIfInBounds_toArray, List.set_cons_zero, List.set_cons_succ]
      refine wpAnyH_ready (rs := [7]) (by kernel_rfl) (by simp) ?_
      refine AllReadyH.cons (o := { dst := some 22, op := .call { callee := .value (.func 57), args := #[.tmp 18, .tmp 21], argTypes := #[66, 22] }, type := 26, pos := "ref.go:48", after := #[{ on := 3, ground := .data }, { on := 6, ground := .data }], guard := none }) rfl (fun K hK => ?_) AllReadyH.nil
      go_simp
      refine (ON.out _ hS0).mono ?_
      rintro e v1 ⟨rfl, kb⟩
      go_wp2_with fail
      refine hK.out _ _ (hS0.trans kb) (fun hS1 => ?_)
      clear hK K
      try simp only [Act.put, List.setIfInBounds_toArray, List.set_cons_zero, List.set_cons_succ]
      refine wpAnyH_take (i := 8) (oi := { dst := some 5, op := .assign (.tmp 22), type := 26, pos := "ref.go:48", after := #[{ on := 7, ground := .data }, { on := 7, ground := .chain }, { on := 0, ground := .phase }, { on := 1, ground := .phase }, { on := 2, ground := .phase }, { on := 3, ground := .phase }, { on := 4, ground := .phase }, { on := 5, ground := .phase }, { on := 6, ground := .phase }, { on := 7, ground := .phase }], guard := none }) (v := .int .i64 z) rfl (by kernel_rfl) (by kernel_rfl) (by kernel_rfl) (fun _ _ _ h => h) (Or.inl ⟨by rfl, by intro w hSw; clear hSw; go_simp⟩) hS1 ?_
      try simp only [Act.put, List.setIfInBounds_toArray, List.set_cons_zero, List.set_cons_succ]
      refine wpAnyH_done (by kernel_rfl) ?_ _
      have HS := Lib.hid (hh.out.2.trans hS1)
      by_cases hz0 : z = 0
      · have HZ := Lib.hid (HEZ.out.trans hz0)
        subst hz0
        clear ON HC
        go_wp2_with fail
        go_roundw
        case rel =>
          refine ⟨k + 1, by omega, by go_num, rfl, rfl, Lib.hid ⟨fun i hi => ?_, HS.out⟩⟩
          rcases Nat.lt_or_ge i k with h' | h'
          · exact hh.out.1 i h'
          · obtain rfl : i = k := by omega
            exact HZ.out
        case measure => simp [intOf]; omega
      · have hzz : (z != 0) = true := by rw [bne_iff_ne]; exact hz0
        obtain rfl : R = (z, k) := by
          have := HCA.out k hh.out.1 hlt (by rw [HEZ.out]; exact hz0)
          rw [HEZ.out] at this
          exact this
        clear ON HC hz0
        go_wp2_with fail
        (try rw [Exit.noGoto_ret])
        go_ret2
        exact ⟨rfl, HS.out⟩
    · obtain rfl : k = n := by omega
      have h0 := HCE.out hh.out.1
      subst h0
      go_wp2_with fail
      (try rw [Exit.noGoto_ret])
      go_ret2
      exact ⟨rfl, hh.out.2⟩
end Ro
end Go.Proofs.Ytpfdakkameifkaa
end

section
/-
  What the reference's Refuse, Create, Jail, Unjail, Punished and Punish answer of any list. Conditions: at most a million validators.
-/
namespace Go.Proofs.Ytpfdakkameifkaa
open Go.RowKit Go.Shelf
set_option linter.unusedVariables false
set_option linter.unusedSimpArgs false
namespace Ro
open Kk Pm

set_option maxRecDepth 10000 in
set_option maxHeartbeats 1000000 in
theorem refuseR (A : Option Addr) (n c : Nat) (l : List V6) (v : Int) (w : World) (hi : Rw.RS vR w A n c l) (hn : n ≤ 1000000000) :
    Calls Try.prog 25 #[.slice A n c, .int .i64 v] w fun e w' => e = .returned (.int .i64 (reE l v)) ∧ Bel w w' := by
  have HR := Lib.hid hi
  have HL := Lib.hid hi.len
  clear hi
  by_cases h0 : 0 ≤ v
  · obtain ⟨k, rfl⟩ : ∃ k : Nat, v = k := ⟨v.toNat, by omega⟩
    by_cases hlt : k < n
    · obtain ⟨⟨r1, r2, r3, r4, r5, r6⟩, hr⟩ := HR.out.get hlt
      obtain ⟨b, q, rfl, hb, hrow⟩ := HR.out.at hlt hr
      have e : reE l k = if r3 = 4 then 20 else 0 := by
        unfold reE nth
        rw [if_pos h0, Int.toNat_natCast, hr]; rfl
      rw [e]
      clear e
      have hlt3 : (k : Int) < n := by omega
      obtain ⟨c0, c1, c2, c3, c4, c5⟩ := rng6 (show w.rangeAt b (q + k * 6) [.int .i64 r1, .int .u64 r2, .int .i64 r3, .int .i64 r4, .bool r5, .bool r6] from hrow)
      clear hr hrow c0 c1 c3 c4 c5
      by_cases h4 : r3 = 4
      · subst h4
        go_enter Try.func25, Try.ntmps25
        go_wp2_with fail
        go_ret
        exact ⟨rfl, Bel.refl _⟩
      · have e4 : (r3 == 4) = false := beq_eq_false_iff_ne.2 h4
        rw [if_neg h4]
        clear h4
        go_enter Try.func25, Try.ntmps25
        go_wp2_with fail
        go_ret
        exact ⟨rfl, Bel.refl _⟩
    · have e : reE l k = 10 := by
        unfold reE nth
        rw [if_pos h0, Int.toNat_natCast, List.getElem?_eq_none (by rw [HL.out]; omega)]; rfl
      rw [e]
      clear e
      have hlt3 : ¬ (k : Int) < n := by omega
      go_enter Try.func25, Try.ntmps25
      go_wp2_with fail
      go_ret
      exact ⟨rfl, Bel.refl _⟩
  · have e : reE l v = 10 := by
      unfold reE nth
      rw [if_neg h0]; rfl
    rw [e]
    clear e
    go_enter Try.func25, Try.ntmps25
    go_wp2_with fail
    go_ret
    exact ⟨rfl, Bel.refl _⟩
set_option maxRecDepth 100000 in
set_option maxHeartbeats 4000000 in
theorem createR (A : Option Addr) (n c : Nat) (l : List V6) (o m : Int) (w : World) (hi : Rw.RS vR w A n c l) (hn : n ≤ 1000000) :
    Calls Try.prog 12 #[.slice A n c, .int .i64 o, .int .u64 m] w fun e w' => CrR w w' l o m e := by
  have HI := Lib.hid hi
  have HLN := Lib.hid hi.len
  have CK := Lib.hid (checkR A n c l w hi (by omega))
  have FD := Lib.hid (fun V (hv : Bel w V) => findR A n c l o V (hi.bel hv) (by omega))
  have CP := Lib.hid (fun V (hv : Bel w V) => copy A n c l V (hi.bel hv) (by omega))
  obtain ⟨e1, he1⟩ : ∃ e, (chk l).1 = e := ⟨_, rfl⟩
  obtain ⟨e2, he2⟩ : ∃ e, (chk l).2 = e := ⟨_, rfl⟩
  have HE1 := Lib.hid he1
  rw [he1, he2] at CK
  obtain ⟨j, hj⟩ : ∃ j, (fnd l o).getD 0 = j := ⟨_, rfl⟩
  obtain ⟨y, hy⟩ : ∃ y, (fnd l o).isSome = y := ⟨_, rfl⟩
  have HY := Lib.hid (show has l o = y from hy)
  rw [hj, hy] at FD
  have HL32 := Lib.hid (show (chk l).1 = 0 → n ≤ 32 from fun h => by have := (chk_ok.1 h).1; rw [hi.len] at this; exact this)
  clear hi he1 he2 hj hy
  go_enter Try.func12, Try.ntmps12
  go_wp2_with fail
  refine CK.out.mono ?_
  rintro e w1 ⟨rfl, kb⟩
  have K1 := Lib.hid kb
  clear kb CK
  by_cases h0 : e1 = 0
  case neg =>
    have hne : (e1 != 0) = true := by rw [bne_iff_ne]; exact h0
    have HE := Lib.hid (crE_0 (l := l) (o := o) (m := m) (by rw [HE1.out]; exact h0))
    go_wp2_with fail
    go_ret3
    exact crR_no K1.out (HE.out.trans HE1.out) h0
  subst h0
  have hn32 := HL32.out HE1.out
  go_wp2_with fail
  refine (FD.out _ K1.out).mono ?_
  rintro e w2 ⟨rfl, rfl⟩
  clear FD
  by_cases h1 : o < 0
  · have HE := Lib.hid (crE_3 (m := m) HE1.out (o := o) (by omega))
    go_wp2_with fail
    go_ret3
    exact crR_no K1.out HE.out (by decide)
  by_cases h1b : 64 ≤ o
  · have HE := Lib.hid (crE_3 (m := m) HE1.out (o := o) (by omega))
    have h1c : o ≥ 64 := h1b
    go_wp2_with fail
    go_ret3
    exact crR_no K1.out HE.out (by decide)
  have h1c : ¬ o ≥ 64 := h1b
  have H1 := Lib.hid (show 0 ≤ o ∧ o < 64 by omega)
  by_cases h2 : m = 0
  · have HE := Lib.hid (crE_2 HE1.out H1.out h2)
    have em : (m == 0) = true := by rw [beq_iff_eq]; exact h2
    clear h2
    go_wp2_with fail
    go_ret3
    exact crR_no K1.out HE.out (by decide)
  have em : (m == 0) = false := beq_eq_false_iff_ne.2 h2
  have H2 := Lib.hid h2
  clear h2
  cases y with
  | true =>
    have HE := Lib.hid (crE_8 HE1.out H1.out H2.out HY.out)
    go_wp2_with fail
    go_ret3
    exact crR_no K1.out HE.out (by decide)
  | false =>
    by_cases h3 : n = 32
    · have HE := Lib.hid (crE_7 HE1.out H1.out H2.out HY.out (HLN.out.trans h3))
      have hl3 : (n : Int) ≥ 32 := by omega
      clear h3
      go_wp2_with fail
      go_ret3
      exact crR_no K1.out HE.out (by decide)
    · have HE := Lib.hid (crE_ok HE1.out H1.out H2.out HY.out (by rw [HLN.out]; exact h3))
      have hl3 : ¬ (n : Int) ≥ 32 := by omega
      have CP := Lib.hid (CP.out w1 K1.out)
      clear h3
      go_wp2_with fail
      refine CP.out.mono ?_
      rintro e w3 ⟨vc, rfl, hc, kb⟩
      have HC := Lib.hid (hc.bel ((Bel.refl w3).alloc (.cells #[.int .i64 o, .int .u64 m, .int .i64 1, .int .i64 0, .bool false, .bool false] 66)))
      have HX := Lib.hid (Rw.rs_one vR (r := newV o m) (Blk.new w3 #[.int .i64 o, .int .u64 m, .int .i64 1, .int .i64 0, .bool false, .bool false] 66))
      have K3 := Lib.hid (K1.out.trans kb)
      have KB := Lib.hid kb
      clear kb hc CP
      go_wp2_with (at_builtin; refine Rw.append_R vR rfl _ _ _ 66 rfl underV zero_v rfl (by decide) w1.heap.size _ l rfl HC.out (some ⟨w3.heap.size, 0, none⟩) 1 1 [newV o m] rfl HX.out (by rw [HLN.out]; omega) (by have := Below.size KB.out; simp; omega) ?_; intro v' w4 hown' hgrow)
      have HO := Lib.hid (hown'.mono (Below.size K1.out))
      have HB := Lib.hid (K1.out.trans (Kk.Bel.grown (KB.out.alloc (.cells #[.int .i64 o, .int .u64 m, .int .i64 1, .int .i64 0, .bool false, .bool false] 66)) hgrow (fun k hk => (HC.out.lt k hk).1)))
      clear hown' hgrow HC HX
      go_wp2_with fail
      go_ret3
      refine ⟨_, by rw [HE.out]; unfold crN; rw [if_pos HE.out, HLN.out]; rfl, ?_, HB.out⟩
      unfold crL
      rw [if_pos HE.out]
      exact HO.out
theorem jaE_def (l : List V6) (v tl : Int) : cgE l v (jaE tl) = if (chk l).1 ≠ 0 then (chk l).1 else if reE l v ≠ 0 then reE l v else if untB tl = false then 3 else 0 := by
  unfold cgE
  by_cases h0 : (chk l).1 ≠ 0
  · rw [if_pos h0, if_pos h0]
  · rw [if_neg h0, if_neg h0]
    unfold reE
    cases hn : nth l v with
    | none => rfl
    | some r =>
      obtain ⟨r1, r2, r3, r4, r5, r6⟩ := r
      show (if r3 = 4 then (20 : Int) else if untB tl = false then 3 else 0) = if (if r3 = 4 then (20 : Int) else 0) ≠ 0 then (if r3 = 4 then (20 : Int) else 0) else _
      by_cases h4 : r3 = 4 <;> simp [h4]
theorem re_at {l : List V6} {v : Int} (h : reE l v = 0) : ∃ k : Nat, v = k ∧ ∃ r, l[k]? = some r ∧ st r ≠ 4 := by
  unfold reE at h
  by_cases hb : v < 0 ∨ (l.length : Int) ≤ v
  · rw [nth_none hb] at h; cases h
  · obtain ⟨k, rfl⟩ : ∃ k : Nat, v = k := ⟨v.toNat, by omega⟩
    have hk : k < l.length := by omega
    have hr := List.getElem?_eq_getElem hk
    refine ⟨k, rfl, _, hr, fun h4 => ?_⟩
    rw [nth_some hr] at h
    simp [h4] at h
set_option maxRecDepth 100000 in
set_option maxHeartbeats 4000000 in
theorem jailR (A : Option Addr) (n c : Nat) (l : List V6) (v tl : Int) (w : World) (hi : Rw.RS vR w A n c l) (hn : n ≤ 1000000) :
    Calls Try.prog 31 #[.slice A n c, .int .i64 v, .int .i64 tl] w fun x w' => CgR w w' l v (cgE l v (jaE tl)) (jaF tl) x := by
  have HI := Lib.hid hi
  have HLN := Lib.hid hi.len
  have CK := Lib.hid (checkR A n c l w hi (by omega))
  have CP := Lib.hid (fun V (hv : Bel w V) => copy A n c l V (hi.bel hv) (by omega))
  obtain ⟨e1, he1⟩ : ∃ e, (chk l).1 = e := ⟨_, rfl⟩
  obtain ⟨e2, he2⟩ : ∃ e, (chk l).2 = e := ⟨_, rfl⟩
  have H1 := Lib.hid he1
  rw [he1, he2] at CK
  have RE := Lib.hid (fun V (hv : Bel w V) => refuseR A n c l v V (hi.bel hv) (by omega))
  obtain ⟨e3, he3⟩ : ∃ e, reE l v = e := ⟨_, rfl⟩
  obtain ⟨E, hE⟩ : ∃ E, cgE l v (jaE tl) = E := ⟨_, rfl⟩
  have HE := Lib.hid hE
  rw [jaE_def, he1, he3] at HE
  rw [he3] at RE
  rw [hE]
  have H3 := Lib.hid he3
  clear hi he1 he2 he3 hE
  go_enter Try.func31, Try.ntmps31
  go_wp2_with fail
  refine CK.out.mono ?_
  rintro x w1 ⟨rfl, kb⟩
  have K1 := Lib.hid kb
  clear kb CK
  by_cases h0 : e1 = 0
  case neg =>
    have hne : (e1 != 0) = true := by rw [bne_iff_ne]; exact h0
    obtain rfl : e1 = E := by have := HE.out; rwa [if_pos h0] at this
    go_wp2_with fail
    go_ret2
    exact cgR_no K1.out h0
  subst h0
  have HE := Lib.hid (show (if e3 ≠ 0 then e3 else if untB tl = false then 3 else 0) = E by have := HE.out; rwa [if_neg (by decide)] at this)
  have RE := Lib.hid (RE.out w1 K1.out)
  go_wp2_with fail
  refine RE.out.mono ?_
  rintro x w2 ⟨rfl, kb⟩
  have K2 := Lib.hid (K1.out.trans kb)
  clear kb RE
  by_cases h3 : e3 = 0
  case neg =>
    have hne : (e3 != 0) = true := by rw [bne_iff_ne]; exact h3
    obtain rfl : e3 = E := by have := HE.out; rwa [if_pos h3] at this
    go_wp2_with fail
    go_ret2
    exact cgR_no K2.out h3
  subst h3
  have HE := Lib.hid (show (if untB tl = false then (3 : Int) else 0) = E by have := HE.out; rwa [if_neg (by decide)] at this)
  have IU := untilR tl w2
  cases hu : untB tl
  · rw [hu] at IU HE
    obtain rfl : 3 = E := HE.out
    clear hu
    go_wp2_with fail
    refine IU.mono ?_
    rintro x wz ⟨rfl, rfl⟩
    go_wp2_with fail
    go_ret2
    exact cgR_no K2.out (by decide)
  rw [hu] at IU HE
  obtain rfl : 0 = E := HE.out
  clear hu
  obtain ⟨k, rfl, ⟨r1, r2, r3, r4, r5, r6⟩, hr, h4⟩ := re_at H3.out
  have HR := Lib.hid hr
  have hlt : k < n := by have := (List.getElem?_eq_some_iff.1 hr).1; have := HLN.out; omega
  have hlt3 : (k : Int) < n := by omega
  clear hr h4 H3
  go_wp2_with fail
  refine IU.mono ?_
  rintro x wz ⟨rfl, rfl⟩
  clear IU
  have CP := Lib.hid (CP.out w2 K2.out)
  go_wp2_with fail
  refine CP.out.mono ?_
  rintro x wc ⟨vc, rfl, ho, kb⟩
  obtain ⟨g, cap, rfl, hg, hrb, hcm⟩ := Rw.rb_own vR ho (by rw [HLN.out]; omega)
  rw [HLN.out]
  have KC := Lib.hid (K2.out.trans kb)
  have HG := Lib.hid (Nat.le_trans (Below.size K2.out) hg)
  have HCM := Lib.hid hcm
  obtain ⟨c0, c1, c2, c3, c4, c5⟩ := rb_cells hrb HR.out
  have f2 := hrb.frozen (k * 6 + 2)
  have f3 := hrb.frozen (k * 6 + 3)
  have c3' : (wc.setCell ⟨g, k * 6 + 2, none⟩ (.int .i64 3)).cell? ⟨g, k * 6 + 3, none⟩ = some (.int .i64 r4) := (rb_cells (hrb.set (o := 2) (r' := (r1, r2, 3, r4, r5, r6)) (v := .int .i64 3) (by decide) HR.out rfl) (List.getElem?_set_self (List.getElem?_eq_some_iff.1 HR.out).1)).2.2.2.1
  have S1 : Rw.RB vR 66 (wc.setCell ⟨g, k * 6 + 2, none⟩ (.int .i64 3)) g (l.set k (r1, r2, 3, r4, r5, r6)) cap := hrb.set (o := 2) (by decide) HR.out rfl
  have S2 : Rw.RB vR 66 ((wc.setCell ⟨g, k * 6 + 2, none⟩ (.int .i64 3)).setCell ⟨g, k * 6 + 3, none⟩ (.int .i64 (max r4 tl))) g ((l.set k (r1, r2, 3, r4, r5, r6)).set k (r1, r2, 3, max r4 tl, r5, r6)) cap := S1.set (o := 3) (r := (r1, r2, 3, r4, r5, r6)) (by decide) (by rw [List.getElem?_set_self (List.getElem?_eq_some_iff.1 HR.out).1]) rfl
  rw [List.set_set] at S2
  have HS2 := Lib.hid S2
  have FIN := Lib.hid (fun (W : World) (hW : W = (wc.setCell ⟨g, k * 6 + 2, none⟩ (.int .i64 3)).setCell ⟨g, k * 6 + 3, none⟩ (.int .i64 (max r4 tl))) => show CgR w W l k 0 (jaF tl) (.returned (.tuple #[.slice (some ⟨g, 0, none⟩) n cap, .int .i64 0])) from by
    subst hW
    refine ⟨_, rfl, ?_, (KC.out.set HG.out _).set HG.out _⟩
    rw [upd_at HR.out]
    have := own_rb HS2.out HG.out HCM.out
    rw [List.length_set, HLN.out] at this
    exact this)
  clear S1 S2 HS2 hg hrb hcm ho kb c0 c1 c4 c5 CP
  go_wp2_with fail
  · have e : max r4 tl = tl := by omega
    go_ret2
    exact FIN.out _ (by rw [e])
  · have e : max r4 tl = r4 := by omega
    go_ret2
    exact FIN.out _ (by rw [e])
theorem gd_at {l : List V6} {k : Nat} {r : V6} (h : (chk l).1 = 0) (hr : l[k]? = some r) : Gd r := ((ok_iff.1 h).2 k r hr).1
set_option maxRecDepth 100000 in
set_option maxHeartbeats 4000000 in
theorem unjailR (A : Option Addr) (n c : Nat) (l : List V6) (v by_ h_ : Int) (w : World) (hi : Rw.RS vR w A n c l) (hn : n ≤ 1000000) :
    Calls Try.prog 33 #[.slice A n c, .int .i64 v, .int .i64 by_, .int .i64 h_] w fun x w' => CgR w w' l v (cgE l v (unE by_ h_)) (setS 1) x := by
  have HI := Lib.hid hi
  have HLN := Lib.hid hi.len
  have CK := Lib.hid (checkR A n c l w hi (by omega))
  have CP := Lib.hid (fun V (hv : Bel w V) => copy A n c l V (hi.bel hv) (by omega))
  obtain ⟨e1, he1⟩ : ∃ e, (chk l).1 = e := ⟨_, rfl⟩
  obtain ⟨e2, he2⟩ : ∃ e, (chk l).2 = e := ⟨_, rfl⟩
  have H1 := Lib.hid he1
  rw [he1, he2] at CK
  obtain ⟨E, hE⟩ : ∃ E, cgE l v (unE by_ h_) = E := ⟨_, rfl⟩
  have HE := Lib.hid hE
  unfold cgE at HE
  rw [he1] at HE
  rw [hE]
  clear hi he1 he2 hE
  go_enter Try.func33, Try.ntmps33
  go_wp2_with fail
  refine CK.out.mono ?_
  rintro x w1 ⟨rfl, kb⟩
  have K1 := Lib.hid kb
  clear kb CK
  by_cases h0 : e1 = 0
  case neg =>
    have hne : (e1 != 0) = true := by rw [bne_iff_ne]; exact h0
    obtain rfl : e1 = E := by have := HE.out; rwa [if_pos h0] at this
    go_wp2_with fail
    go_ret2
    exact cgR_no K1.out h0
  subst h0
  have HE := Lib.hid (show (nth l v).elim 10 (unE by_ h_) = E by have := HE.out; rwa [if_neg (by decide)] at this)
  by_cases hv0 : v < 0
  · obtain rfl : E = 10 := by have := HE.out; rw [nth_none (.inl hv0)] at this; exact this.symm
    go_wp2_with fail
    go_ret2
    exact cgR_no K1.out (by decide)
  obtain ⟨k, rfl⟩ : ∃ k : Nat, v = k := ⟨v.toNat, by omega⟩
  by_cases hlt : k < n
  case neg =>
    obtain rfl : E = 10 := by have := HE.out; rw [nth_none (.inr (by rw [HLN.out]; omega))] at this; exact this.symm
    have hge : (k : Int) ≥ n := by omega
    have hlt3 : ¬ (k : Int) < n := by omega
    go_wp2_with fail
    go_ret2
    exact cgR_no K1.out (by decide)
  have hlt3 : (k : Int) < n := by omega
  have hlt4 : ¬ (k : Int) ≥ n := by omega
  obtain ⟨⟨r1, r2, r3, r4, r5, r6⟩, hr⟩ := HI.out.get hlt
  obtain ⟨b, q, rfl, hb, hrow⟩ := (HI.out.bel K1.out).at hlt hr
  have HR := Lib.hid hr
  have HGD := gd_at H1.out hr
  have HE := Lib.hid (show (if by_ ≠ r1 then (24 : Int) else if r3 = 4 then 20 else if (decide (r3 = 1) || decide (r3 = 2)) = true then 11 else if h_ < r4 then 21 else 0) = E by have := HE.out; rw [nth_some hr] at this; exact this)
  have HFR := Lib.hid (show r3 ≠ 4 → ((decide (r3 = 1) || decide (r3 = 2)) = true ↔ r3 ≠ 3) from fun h4 => by
    have h1 := HGD.2.2.2.1
    have h2 := HGD.2.2.2.2.1
    simp
    omega)
  obtain ⟨c0, c1, c2, c3, c4, c5⟩ := rng6 (show w1.rangeAt b (q + k * 6) [.int .i64 r1, .int .u64 r2, .int .i64 r3, .int .i64 r4, .bool r5, .bool r6] from hrow)
  clear hr hrow HGD c1 c4 c5
  by_cases hb1 : by_ = r1
  case neg =>
    have e1 : (r1 != by_) = true := by rw [bne_iff_ne]; omega
    obtain rfl : E = 24 := by have := HE.out; rw [if_pos hb1] at this; exact this.symm
    clear hb1
    go_wp2_with fail
    go_ret2
    exact cgR_no K1.out (by decide)
  subst hb1
  have e1 : (by_ != by_) = false := by simp
  by_cases h4 : r3 = 4
  · subst h4
    obtain rfl : E = 20 := by have := HE.out; rw [if_neg (fun h => h rfl), if_pos rfl] at this; exact this.symm
    go_wp2_with fail
    go_ret2
    exact cgR_no K1.out (by decide)
  have e4 : (r3 == 4) = false := beq_eq_false_iff_ne.2 h4
  by_cases h3 : r3 = 3
  case neg =>
    have e3 : (r3 != 3) = true := by rw [bne_iff_ne]; exact h3
    obtain rfl : E = 11 := by have := HE.out; rw [if_neg (fun h => h rfl), if_neg h4, if_pos ((HFR.out h4).2 h3)] at this; exact this.symm
    clear h4 h3
    go_wp2_with fail
    go_ret2
    exact cgR_no K1.out (by decide)
  subst h3
  by_cases h5 : h_ < r4
  · obtain rfl : E = 21 := by have := HE.out; rw [if_neg (fun h => h rfl), if_neg h4, if_neg (fun h => (HFR.out h4).1 h rfl), if_pos h5] at this; exact this.symm
    clear h4
    go_wp2_with fail
    go_ret2
    exact cgR_no K1.out (by decide)
  obtain rfl : E = 0 := by have := HE.out; rw [if_neg (fun h => h rfl), if_neg h4, if_neg (fun h => (HFR.out h4).1 h rfl), if_neg h5] at this; exact this.symm
  clear h4 HE HFR
  have CP := Lib.hid (CP.out w1 K1.out)
  go_wp2_with fail
  refine CP.out.mono ?_
  rintro x wc ⟨vc, rfl, ho, kb⟩
  obtain ⟨g, cap, rfl, hg, hrb, hcm⟩ := Rw.rb_own vR ho (by rw [HLN.out]; omega)
  rw [HLN.out]
  have KC := Lib.hid (K1.out.trans kb)
  have HG := Lib.hid (Nat.le_trans (Below.size K1.out) hg)
  have HCM := Lib.hid hcm
  obtain ⟨d0, d1, d2, d3, d4, d5⟩ := rb_cells hrb HR.out
  have f2 := hrb.frozen (k * 6 + 2)
  have S1 : Rw.RB vR 66 (wc.setCell ⟨g, k * 6 + 2, none⟩ (.int .i64 1)) g (l.set k (by_, r2, 1, r4, r5, r6)) cap := hrb.set (o := 2) (by decide) HR.out rfl
  have HS1 := Lib.hid S1
  clear S1 hg hrb hcm ho kb d0 d1 d3 d4 d5 c0 c2 c3 CP
  go_wp2_with fail
  go_ret2
  refine ⟨_, rfl, ?_, KC.out.set HG.out _⟩
  rw [upd_at HR.out]
  have := own_rb HS1.out HG.out HCM.out
  rw [List.length_set, HLN.out] at this
  exact this
end Ro
end Go.Proofs.Ytpfdakkameifkaa
end
