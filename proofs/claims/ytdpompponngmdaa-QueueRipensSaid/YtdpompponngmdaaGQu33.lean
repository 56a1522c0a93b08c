/-
  What the law QueueRipens answers: true. Condition: Balances are words.
-/
import Derived.Test.YtdpompponngmdaaGQu30
import Derived.Test.YtdpompponngmdaaQE
import Derived.Test.YtdpompponngmdaaQD
import Derived.Test.YtdpompponngmdaaGRwG
namespace Go.Proofs.Ytdpompponngmdaa
open Go.RowKit Go.Shelf
set_option linter.unusedVariables false
set_option linter.unusedSimpArgs false
set_option Elab.async false
namespace Qu
open Kk Pm

set_option maxRecDepth 100000 in
set_option maxHeartbeats 16000000 in
theorem ripensLaw (A : Option Addr) (n c : Nat) (l : List E8) (mo h u : Int) (w : World) (hi : Rw.RS eR w A n c l) (hw : Wd l) :
    Calls Try.prog 7 #[.slice A n c, .int .i64 mo, .int .i64 h, .int .i64 u] w fun e w' => e = .returned (.bool true) ∧ Bel w w' := by
  have HI := Lib.hid hi
  have HWW := Lib.hid hw
  have HLN := Lib.hid hi.len
  have KN := Lib.hid (Qu.known w)
  clear hi hw
  go_enter Try.func7, Try.ntmps7
  go_wp2_with fail
  refine KN.out.mono ?_
  rintro e w1 ⟨rfl, kb⟩
  have K1 := Lib.hid (show Bel w w1 from kb)
  clear kb KN
  by_cases hlong : 40 < n
  · have hlong3 : (40 : Int) < n := by omega
    go_wp2_with fail
    go_ret
    exact ⟨rfl, K1.out⟩
  have hlong3 : ¬ (40 : Int) < n := by omega
  have HN := Lib.hid (show n ≤ 40 by omega)
  clear hlong
  go_wp2_with fail
  go_loopw [8, 10, 11] (fun s8 s10 s11 wr => ∃ (k N cN : Nat) (AN : Option Addr) (Q : List E8), s8 = .bool false ∧ s11 = .int .i64 k ∧ k ≤ n ∧ s10 = .slice AN N cN ∧ N ≤ k ∧ Hid (Rw.RS eR wr AN N cN Q) ∧ Hid (Ok Q ∧ Wd Q) ∧ Hid (Bel w wr)) (fun _ _ s11 _ => n - (intOf s11).toNat)
  case atStart => exact ⟨0, 0, 0, none, [], rfl, rfl, Nat.zero_le _, rfl, Nat.le_refl _, Lib.hid Rw.RS.nil_, Lib.hid ⟨⟨by decide, trivial, by decide⟩, fun r hr => by cases hr⟩, K1⟩
  case round =>
    obtain ⟨k, N, cN, AN, Q, rfl, rfl, hkn, rfl, hNk, hq, hok, hh⟩ := hrel
    have HNN := Lib.hid (show N ≤ 40 by have := HN.out; omega)
    by_cases hlt : k < n
    · have hlt3 : (k : Int) < n := by omega
      have hlt0 : (0 : Int) ≤ k := by omega
      have hir := HI.out.bel hh.out
      obtain ⟨⟨r1, r2, r3, r4, r5, r6, r7, r8⟩, hr⟩ := hir.get hlt
      obtain ⟨b, o, rfl, hb, hrow⟩ := hir.at hlt hr
      have HROW := Lib.hid (show wr.rangeAt b (o + k * 8) [.int .i64 r1, .int .i64 r2, .int .i64 r3, .int .i64 r4, .int .i64 r5, .int .i64 r6, .int .u64 r7, .int .u64 r8] from hrow)
      have HWX := Lib.hid (show 0 ≤ r8 ∧ r8 ≤ 18446744073709551615 from HWW.out.at hr)
      have AD := Lib.hid (add AN N cN Q r1 r2 r3 r4 r5 r6 r7 r8 mo wr hq.out (by have := HNN.out; omega) hok.out.2 HWX.out)
      have HGD := Lib.hid (fun h => add_good (l := Q) (x := (r1, r2, r3, r4, r5, r6, r7, r8)) (m := mo) h)
      have HLA := Lib.hid (fun h => addL_eq (l := Q) (x := (r1, r2, r3, r4, r5, r6, r7, r8)) (m := mo) h)
      obtain ⟨E, hE⟩ : ∃ E, addE Q (r1, r2, r3, r4, r5, r6, r7, r8) mo = E := ⟨_, rfl⟩
      rw [hE] at HGD HLA
      have HE := Lib.hid hE
      obtain ⟨c0, c1, c2, c3, c4, c5, c6, c7⟩ := rng8 HROW.out
      clear hir hr hrow hE
      go_wp2_with fail
      refine AD.out.mono ?_
      rintro e w9 ⟨y9, rfl, ho, kb⟩
      rw [HE.out]
      have HO := Lib.hid ho
      have KB := Lib.hid kb
      clear ho kb AD c0 c1 c2 c3 c4 c5 c6 c7
      by_cases h0 : E = 0
      case neg =>
        have h0b : (E == 0) = false := beq_eq_false_iff_ne.2 h0
        have R9 := Lib.hid (hq.out.bel KB.out)
        have K9 := Lib.hid (hh.out.trans KB.out)
        clear h0 HO hq hh HGD HLA HE
        go_wp2_with fail
        go_roundw
        case rel => exact ⟨k + 1, N, cN, AN, Q, rfl, by go_num, by omega, rfl, by omega, R9, hok, K9⟩
        case measure => simp [intOf]; omega
      subst h0
      have HGD2 := Lib.hid (HGD.out rfl)
      have HO := Lib.hid (show OwnE w9 wr.heap.size y9 (Q ++ [(r1, r2, r3, r4, r5, r6, r7, r8)]) by have := HO.out; rwa [HLA.out rfl] at this)
      have HQN := Lib.hid hq.out.len
      have HWD2 := Lib.hid (show Wd (Q ++ [(r1, r2, r3, r4, r5, r6, r7, r8)]) from fun r hr => by
        rcases List.mem_append.1 hr with h1 | h1
        · exact hok.out.2 r h1
        · rcases List.mem_singleton.1 h1 with rfl
          exact HWX.out)
      have HLAST := Lib.hid (show (Q ++ [(r1, r2, r3, r4, r5, r6, r7, r8)])[N]? = some (r1, r2, r3, r4, r5, r6, r7, r8) by rw [List.getElem?_append_right (by rw [HQN.out]; exact Nat.le_refl _), HQN.out, Nat.sub_self]; rfl)
      have HL1 := Lib.hid (show (Q ++ [(r1, r2, r3, r4, r5, r6, r7, r8)]).length = N + 1 by rw [List.length_append, HQN.out]; rfl)
      obtain ⟨Q2, hQ2⟩ : ∃ Q2, Q ++ [(r1, r2, r3, r4, r5, r6, r7, r8)] = Q2 := ⟨_, rfl⟩
      rw [hQ2] at HGD2 HO HWD2 HLAST HL1
      obtain ⟨A2, g2, rfl, hr2⟩ := HO.out.slice
      rw [HL1.out] at hr2 ⊢
      have R2 := Lib.hid hr2
      obtain ⟨b2, o2, rfl, hb2, hrow2⟩ := hr2.at (Nat.lt_succ_self N) HLAST.out
      have HROW2 := Lib.hid (show w9.rangeAt b2 (o2 + N * 8) [.int .i64 r1, .int .i64 r2, .int .i64 r3, .int .i64 r4, .int .i64 r5, .int .i64 r6, .int .u64 r7, .int .u64 r8] from hrow2)
      have HROW9 := Lib.hid (Pm.rng_bel HROW.out KB.out)
      have K9 := Lib.hid (hh.out.trans KB.out)
      have LV := Lib.hid (fun V (hv : Bel w9 V) => liveX (some ⟨b2, o2, none⟩) (N + 1) g2 Q2 r1 r2 V (R2.out.bel hv) (by have := HNN.out; omega))
      obtain ⟨C, hC⟩ : ∃ C, live Q2 r1 r2 = C := ⟨_, rfl⟩
      rw [hC] at LV
      have hCM : ¬ mo < (C : Int) := by rw [← hC]; have h9 : (live Q2 r1 r2 : Int) ≤ mo := HGD2.out.2; omega
      have hN1 : ¬ (N : Int) < 0 := by omega
      have hNb : ¬ ((N : Int) + 1 ≤ (N : Int)) := by omega
      have wN : IntKind.i64.wrap ((N : Int) + 1) = ((N + 1 : Nat) : Int) := by rw [IntWalk.i64_in _ (by have := HNN.out; omega)]; omega
      have EQ := Lib.hid (fun V => (Rw.neq_entry r1 r2 r3 r4 r5 r6 r7 r8 r1 r2 r3 r4 r5 r6 r7 r8 V).trans (by rw [decide_eq_true (rfl : (r1, r2, r3, r4, r5, r6, r7, r8) = (r1, r2, r3, r4, r5, r6, r7, r8))]))
      clear hr2 hrow2 hb2 hQ2 hC HO HLA HGD HE hq hh
      go_upto_region 10 with fail
      refine wp_region_held_drew (S := fun Vx => Bel w9 Vx) (by kernel_rfl) (Bel.refl _).drew (fun hS0 => ?_)
      obtain ⟨w6, hw6⟩ : ∃ w6, World.drew w9 = w6 := ⟨_, rfl⟩
      rw [hw6] at hS0 ⊢
      clear hw6
      refine wpAnyH_take (i := 0) (oi := { dst := some 45, op := .move (.tmp 12), type := 22, pos := "outright.go:109", after := #[], guard := none }) (v := .slice (some ⟨b2, o2, none⟩) (N + 1) g2) rfl (by kernel_rfl) (by kernel_rfl) (by kernel_rfl) (fun _ _ _ h => h) (Or.inl ⟨by rfl, by intro w hSw; clear hSw; go_simp⟩) hS0 ?_
      try simp only [Act.put, List.setIfInBounds_toArray, List.set_cons_zero, List.set_cons_succ]
      refine wpAnyH_take (i := 1) (oi := { dst := some 46, op := .call { callee := .builtin .len, args := #[.tmp 45], argTypes := #[22] }, type := 3, pos := "outright.go:109", after := #[{ on := 0, ground := .data }], guard := none }) (v := .int .i64 ((N + 1 : Nat) : Int)) rfl (by kernel_rfl) (by kernel_rfl) (by kernel_rfl) (fun _ _ _ h => h) (Or.inl ⟨by rfl, by intro w hSw; clear hSw; go_simp⟩) hS0 ?_
      try simp only [Act.put, List.setIfInBounds_toArray, List.set_cons_zero, List.set_cons_succ]
      refine wpAnyH_take (i := 2) (oi := { dst := some 47, op := .move (.tmp 10), type := 22, pos := "outright.go:109", after := #[], guard := none }) (v := .slice AN N cN) rfl (by kernel_rfl) (by kernel_rfl) (by kernel_rfl) (fun _ _ _ h => h) (Or.inl ⟨by rfl, by intro w hSw; clear hSw; go_simp⟩) hS0 ?_
      try simp only [Act.put, List.setIfInBounds_toArray, List.set_cons_zero, List.set_cons_succ]
      refine wpAnyH_take (i := 3) (oi := { dst := some 48, op := .call { callee := .builtin .len, args := #[.tmp 47], argTypes := #[22] }, type := 3, pos := "outright.go:109", after := #[{ on := 2, ground := .data }], guard := none }) (v := .int .i64 N) rfl (by kernel_rfl) (by kernel_rfl) (by kernel_rfl) (fun _ _ _ h => h) (Or.inl ⟨by rfl, by intro w hSw; clear hSw; go_simp⟩) hS0 ?_
      try simp only [Act.put, List.setIfInBounds_toArray, List.set_cons_zero, List.set_cons_succ]
      refine wpAnyH_take (i := 4) (oi := { dst := some 49, op := .binOp .add 3 (.tmp 48) (.const (Value.int IntKind.i64 1)) 3, type := 3, pos := "outright.go:109", after := #[{ on := 3, ground := .data }], guard := none }) (v := .int .i64 ((N + 1 : Nat) : Int)) rfl (by kernel_rfl) (by kernel_rfl) (by kernel_rfl) (fun _ _ _ h => h) (Or.inl ⟨by rfl, by intro w hSw; clear hSw; go_simp⟩) hS0 ?_
      try simp only [Act.put, List.setIfInBounds_toArray, List.set_cons_zero, List.set_cons_succ]
      refine wpAnyH_take (i := 5) (oi := { dst := some 50, op := .binOp .neq 3 (.tmp 46) (.tmp 49) 3, type := 4, pos := "outright.go:109", after := #[{ on := 1, ground := .data }, { on := 4, ground := .data }], guard := none }) (v := .bool false) rfl (by kernel_rfl) (by kernel_rfl) (by kernel_rfl) (fun _ _ _ h => h) (Or.inl ⟨by rfl, by intro w hSw; clear hSw; go_simp⟩) hS0 ?_
      try simp only [Act.put, List.setIfInBounds_toArray, List.set_cons_zero, List.set_cons_succ]
      refine wpAnyH_take (i := 6) (oi := { dst := some 51, op := .move (.tmp 50), type := 4, pos := "outright.go:109", after := #[{ on := 5, ground := .data }], guard := none }) (v := .bool false) rfl (by kernel_rfl) (by kernel_rfl) (by kernel_rfl) (fun _ _ _ h => h) (Or.inl ⟨by rfl, by intro w hSw; clear hSw; go_simp⟩) hS0 ?_
      try simp only [Act.put, List.setIfInBounds_toArray, List.set_cons_zero, List.set_cons_succ]
      refine wpAnyH_take (i := 7) (oi := { dst := some 52, op := .move (.tmp 12), type := 22, pos := "outright.go:109", after := #[{ on := 6, ground := .guard }], guard := some (6, false) }) (v := .slice (some ⟨b2, o2, none⟩) (N + 1) g2) rfl (by kernel_rfl) (by kernel_rfl) (by kernel_rfl) (fun _ _ _ h => h) (Or.inl ⟨by rfl, by intro w hSw; clear hSw; go_simp⟩) hS0 ?_
      try simp only [Act.put, List.setIfInBounds_toArray, List.set_cons_zero, List.set_cons_succ]
      refine wpAnyH_take (i := 8) (oi := { dst := some 53, op := .move (.tmp 10), type := 22, pos := "outright.go:109", after := #[{ on := 6, ground := .guard }], guard := some (6, false) }) (v := .slice AN N cN) rfl (by kernel_rfl) (by kernel_rfl) (by kernel_rfl) (fun _ _ _ h => h) (Or.inl ⟨by rfl, by intro w hSw; clear hSw; go_simp⟩) hS0 ?_
      try simp only [Act.put, List.setIfInBounds_toArray, List.set_cons_zero, List.set_cons_succ]
      refine wpAnyH_take (i := 9) (oi := { dst := some 54, op := .call { callee := .builtin .len, args := #[.tmp 53], argTypes := #[22] }, type := 3, pos := "outright.go:109", after := #[{ on := 8, ground := .data }, { on := 6, ground := .guard }], guard := some (6, false) }) (v := .int .i64 N) rfl (by kernel_rfl) (by kernel_rfl) (by kernel_rfl) (fun _ _ _ h => h) (Or.inl ⟨by rfl, by intro w hSw; clear hSw; go_simp⟩) hS0 ?_
      try simp only [Act.put, List.setIfInBounds_toArray, List.set_cons_zero, List.set_cons_succ]
      refine wpAnyH_take (i := 10) (oi := { dst := some 55, op := .indexAddr 22 (.tmp 52) (.tmp 54), type := 0, pos := "outright.go:109", after := #[{ on := 7, ground := .data }, { on := 9, ground := .data }, { on := 6, ground := .guard }], guard := some (6, false) }) (v := .pointer (some ⟨b2, o2 + N * 8, none⟩)) rfl (by kernel_rfl) (by kernel_rfl) (by kernel_rfl) (fun _ _ _ h => h) (Or.inl ⟨by rfl, by intro w hSw; clear hSw; go_simp⟩) hS0 ?_
      try simp only [Act.put, List.setIfInBounds_toArray, List.set_cons_zero, List.set_cons_succ]
      refine wpAnyH_take (i := 11) (oi := { dst := some 56, op := .load 27 (.tmp 55), type := 27, pos := "outright.go:109", after := #[{ on := 10, ground := .data }, { on := 6, ground := .guard }], guard := some (6, false) }) (v := .agg #[.int .i64 r1, .int .i64 r2, .int .i64 r3, .int .i64 r4, .int .i64 r5, .int .i64 r6, .int .u64 r7, .int .u64 r8]) rfl (by kernel_rfl) (by kernel_rfl) (by kernel_rfl) (fun _ _ _ h => h) (yieldsIf_load_mid (by rfl) _ _ rfl _ _ rfl _ _ (fun w h => Pm.rng_bel HROW2.out h) Try.underlying27 rfl info_E) hS0 ?_
      try simp only [Act.put, List.setIfInBounds_toArray, List.set_cons_zero, List.set_cons_succ]
      refine wpAnyH_take (i := 12) (oi := { dst := some 57, op := .move (.tmp 0), type := 22, pos := "outright.go:109", after := #[{ on := 6, ground := .guard }], guard := some (6, false) }) (v := .slice (some ⟨b, o, none⟩) n c) rfl (by kernel_rfl) (by kernel_rfl) (by kernel_rfl) (fun _ _ _ h => h) (Or.inl ⟨by rfl, by intro w hSw; clear hSw; go_simp⟩) hS0 ?_
      try simp only [Act.put, List.setIfInBounds_toArray, List.set_cons_zero, List.set_cons_succ]
      refine wpAnyH_take (i := 13) (oi := { dst := some 58, op := .move (.tmp 11), type := 3, pos := "outright.go:109", after := #[{ on := 6, ground := .guard }], guard := some (6, false) }) (v := .int .i64 k) rfl (by kernel_rfl) (by kernel_rfl) (by kernel_rfl) (fun _ _ _ h => h) (Or.inl ⟨by rfl, by intro w hSw; clear hSw; go_simp⟩) hS0 ?_
      try simp only [Act.put, List.setIfInBounds_toArray, List.set_cons_zero, List.set_cons_succ]
      refine wpAnyH_take (i := 14) (oi := { dst := some 59, op := .indexAddr 22 (.tmp 57) (.tmp 58), type := 0, pos := "outright.go:109", after := #[{ on := 12, ground := .data }, { on := 13, ground := .data }, { on := 6, ground := .guard }], guard := some (6, false) }) (v := .pointer (some ⟨b, o + k * 8, none⟩)) rfl (by kernel_rfl) (by kernel_rfl) (by kernel_rfl) (fun _ _ _ h => h) (Or.inl ⟨by rfl, by intro w hSw; clear hSw; go_simp⟩) hS0 ?_
      try simp only [Act.put, List.setIfInBounds_toArray, List.set_cons_zero, List.set_cons_succ]
      refine wpAnyH_take (i := 15) (oi := { dst := some 60, op := .load 27 (.tmp 59), type := 27, pos := "outright.go:109", after := #[{ on := 14, ground := .data }, { on := 6, ground := .guard }], guard := some (6, false) }) (v := .agg #[.int .i64 r1, .int .i64 r2, .int .i64 r3, .int .i64 r4, .int .i64 r5, .int .i64 r6, .int .u64 r7, .int .u64 r8]) rfl (by kernel_rfl) (by kernel_rfl) (by kernel_rfl) (fun _ _ _ h => h) (yieldsIf_load_mid (by rfl) _ _ rfl _ _ rfl _ _ (fun w h => Pm.rng_bel HROW9.out h) Try.underlying27 rfl info_E) hS0 ?_
      try simp only [Act.put, List.setIfInBounds_toArray, List.set_cons_zero, List.set_cons_succ]
      refine wpAnyH_take (i := 16) (oi := { dst := some 61, op := .binOp .neq 27 (.tmp 56) (.tmp 60) 27, type := 4, pos := "outright.go:109", after := #[{ on := 11, ground := .data }, { on := 15, ground := .data }, { on := 6, ground := .guard }], guard := some (6, false) }) (v := .bool false) rfl (by kernel_rfl) (by kernel_rfl) (by kernel_rfl) (fun _ _ _ h => h) (Or.inl ⟨by rfl, fun w _ => Rw.exec_neq rfl _ _ rfl rfl (by kernel_rfl) EQ.out w⟩) hS0 ?_
      try simp only [Act.put, List.setIfInBounds_toArray, List.set_cons_zero, List.set_cons_succ]
      refine wpAnyH_take (i := 17) (oi := { dst := some 62, op := .pick (.tmp 51) (.const (Value.bool true)) (.tmp 61), type := 4, pos := "outright.go:109", after := #[{ on := 6, ground := .data }, { on := 16, ground := .data }], guard := none }) (v := .bool false) rfl (by kernel_rfl) (by kernel_rfl) (by kernel_rfl) (fun _ _ _ h => h) (Or.inl ⟨by rfl, by intro w hSw; clear hSw; go_simp⟩) hS0 ?_
      try simp only [Act.put, List.setIfInBounds_toArray, List.set_cons_zero, List.set_cons_succ]
      refine wpAnyH_take (i := 18) (oi := { dst := some 63, op := .move (.tmp 62), type := 4, pos := "outright.go:109", after := #[{ on := 17, ground := .data }, { on := 6, ground := .chain }], guard := none }) (v := .bool false) rfl (by kernel_rfl) (by kernel_rfl) (by kernel_rfl) (fun _ _ _ h => h) (Or.inl ⟨by rfl, by intro w hSw; clear hSw; go_simp⟩) hS0 ?_
      try simp only [Act.put, List.setIfInBounds_toArray, List.set_cons_zero, List.set_cons_succ]
      refine wpAnyH_take (i := 19) (oi := { dst := some 64, op := .move (.tmp 12), type := 22, pos := "outright.go:109", after := #[{ on := 18, ground := .guard }], guard := some (18, false) }) (v := .slice (some ⟨b2, o2, none⟩) (N + 1) g2) rfl (by kernel_rfl) (by kernel_rfl) (by kernel_rfl) (fun _ _ _ h => h) (Or.inl ⟨by rfl, by intro w hSw; clear hSw; go_simp⟩) hS0 ?_
      try simp only [Act.put, List.setIfInBounds_toArray, List.set_cons_zero, List.set_cons_succ]
      refine wpAnyH_take (i := 20) (oi := { dst := some 65, op := .move (.tmp 0), type := 22, pos := "outright.go:109", after := #[{ on := 18, ground := .guard }], guard := some (18, false) }) (v := .slice (some ⟨b, o, none⟩) n c) rfl (by kernel_rfl) (by kernel_rfl) (by kernel_rfl) (fun _ _ _ h => h) (Or.inl ⟨by rfl, by intro w hSw; clear hSw; go_simp⟩) hS0 ?_
      try simp only [Act.put, List.setIfInBounds_toArray, List.set_cons_zero, List.set_cons_succ]
      refine wpAnyH_take (i := 21) (oi := { dst := some 66, op := .move (.tmp 11), type := 3, pos := "outright.go:109", after := #[{ on := 18, ground := .guard }], guard := some (18, false) }) (v := .int .i64 k) rfl (by kernel_rfl) (by kernel_rfl) (by kernel_rfl) (fun _ _ _ h => h) (Or.inl ⟨by rfl, by intro w hSw; clear hSw; go_simp⟩) hS0 ?_
      try simp only [Act.put, List.setIfInBounds_toArray, List.set_cons_zero, List.set_cons_succ]
      refine wpAnyH_take (i := 22) (oi := { dst := some 67, op := .indexAddr 22 (.tmp 65) (.tmp 66), type := 0, pos := "outright.go:109", after := #[{ on := 20, ground := .data }, { on := 21, ground := .data }, { on := 18, ground := .guard }], guard := some (18, false) }) (v := .pointer (some ⟨b, o + k * 8, none⟩)) rfl (by kernel_rfl) (by kernel_rfl) (by kernel_rfl) (fun _ _ _ h => h) (Or.inl ⟨by rfl, by intro w hSw; clear hSw; go_simp⟩) hS0 ?_
      try simp only [Act.put, List.setIfInBounds_toArray, List.set_cons_zero, List.set_cons_succ]
      refine wpAnyH_take (i := 23) (oi := { dst := some 68, op := .fieldAddr 27 (.tmp 67) 0, type := 0, pos := "outright.go:109", after := #[{ on := 22, ground := .data }, { on := 18, ground := .guard }], guard := some (18, false) }) (v := .pointer (some ⟨b, o + k * 8, none⟩)) rfl (by kernel_rfl) (by kernel_rfl) (by kernel_rfl) (fun _ _ _ h => h) (Or.inl ⟨by rfl, by intro w hSw; clear hSw; go_simp⟩) hS0 ?_
      try simp only [Act.put, List.setIfInBounds_toArray, List.set_cons_zero, List.set_cons_succ]
      refine wpAnyH_take (i := 24) (oi := { dst := some 69, op := .load 3 (.tmp 68), type := 3, pos := "outright.go:109", after := #[{ on := 23, ground := .data }, { on := 18, ground := .guard }], guard := some (18, false) }) (v := .int .i64 r1) rfl (by kernel_rfl) (by kernel_rfl) (by kernel_rfl) (fun _ _ _ h => h) (Or.inl ⟨by rfl, by intro w h; have hcell := ((rng8 (Pm.rng_bel HROW9.out h)).1); clear h; go_simp⟩) hS0 ?_
      try simp only [Act.put, List.setIfInBounds_toArray, List.set_cons_zero, List.set_cons_succ]
      refine wpAnyH_take (i := 25) (oi := { dst := some 70, op := .move (.tmp 0), type := 22, pos := "outright.go:109", after := #[{ on := 18, ground := .guard }], guard := some (18, false) }) (v := .slice (some ⟨b, o, none⟩) n c) rfl (by kernel_rfl) (by kernel_rfl) (by kernel_rfl) (fun _ _ _ h => h) (Or.inl ⟨by rfl, by intro w hSw; clear hSw; go_simp⟩) hS0 ?_
      try simp only [Act.put, List.setIfInBounds_toArray, List.set_cons_zero, List.set_cons_succ]
      refine wpAnyH_take (i := 26) (oi := { dst := some 71, op := .move (.tmp 11), type := 3, pos := "outright.go:109", after := #[{ on := 18, ground := .guard }], guard := some (18, false) }) (v := .int .i64 k) rfl (by kernel_rfl) (by kernel_rfl) (by kernel_rfl) (fun _ _ _ h => h) (Or.inl ⟨by rfl, by intro w hSw; clear hSw; go_simp⟩) hS0 ?_
      try simp only [Act.put, List.setIfInBounds_toArray, List.set_cons_zero, List.set_cons_succ]
      refine wpAnyH_take (i := 27) (oi := { dst := some 72, op := .indexAddr 22 (.tmp 70) (.tmp 71), type := 0, pos := "outright.go:109", after := #[{ on := 25, ground := .data }, { on := 26, ground := .data }, { on := 18, ground := .guard }], guard := some (18, false) }) (v := .pointer (some ⟨b, o + k * 8, none⟩)) rfl (by kernel_rfl) (by kernel_rfl) (by kernel_rfl) (fun _ _ _ h => h) (Or.inl ⟨by rfl, by intro w hSw; clear hSw; go_simp⟩) hS0 ?_
      try simp only [Act.put, List.setIfInBounds_toArray, List.set_cons_zero, List.set_cons_succ]
      refine wpAnyH_take (i := 28) (oi := { dst := some 73, op := .fieldAddr 27 (.tmp 72) 1, type := 0, pos := "outright.go:109", after := #[{ on := 27, ground := .data }, { on := 18, ground := .guard }], guard := some (18, false) }) (v := .pointer (some ⟨b, o + k * 8 + 1, none⟩)) rfl (by kernel_rfl) (by kernel_rfl) (by kernel_rfl) (fun _ _ _ h => h) (Or.inl ⟨by rfl, by intro w hSw; clear hSw; go_simp⟩) hS0 ?_
      try simp only [Act.put, List.setIfInBounds_toArray, List.set_cons_zero, List.set_cons_succ]
      refine wpAnyH_take (i := 29) (oi := { dst := some 74, op := .fieldAddr 24 (.tmp 73) 0, type := 0, pos := "outright.go:109", after := #[{ on := 28, ground := .data }, { on := 18, ground := .guard }], guard := some (18, false) }) (v := .pointer (some ⟨b, o + k * 8 + 1, none⟩)) rfl (by kernel_rfl) (by kernel_rfl) (by kernel_rfl) (fun _ _ _ h => h) (Or.inl ⟨by rfl, by intro w hSw; clear hSw; go_simp⟩) hS0 ?_
      try simp only [Act.put, List.setIfInBounds_toArray, List.set_cons_zero, List.set_cons_succ]
      refine wpAnyH_take (i := 30) (oi := { dst := some 75, op := .load 3 (.tmp 74), type := 3, pos := "outright.go:109", after := #[{ on := 29, ground := .data }, { on := 18, ground := .guard }], guard := some (18, false) }) (v := .int .i64 r2) rfl (by kernel_rfl) (by kernel_rfl) (by kernel_rfl) (fun _ _ _ h => h) (Or.inl ⟨by rfl, by intro w h; have hcell := ((rng8 (Pm.rng_bel HROW9.out h)).2.1); clear h; go_simp⟩) hS0 ?_
      try simp only [Act.put, List.setIfInBounds_toArray, List.set_cons_zero, List.set_cons_succ]
      refine wpAnyH_take (i := 32) (oi := { dst := some 77, op := .move (.tmp 1), type := 3, pos := "outright.go:109", after := #[{ on := 18, ground := .guard }], guard := some (18, false) }) (v := .int .i64 mo) rfl (by kernel_rfl) (by kernel_rfl) (by kernel_rfl) (fun _ _ _ h => h) (Or.inl ⟨by rfl, by intro w hSw; clear hSw; go_simp⟩) hS0 ?_
      try simp only [Act.put, List.setIfInBounds_toArray, List.set_cons_zero, List.set_cons_succ]
      refine wpAnyH_ready (rs := [31]) (by kernel_rfl) (by simp) ?_
      refine AllReadyH.cons (o := { dst := some 76, op := .call { callee := .value (.func 27), args := #[.tmp 64, .tmp 69, .tmp 75], argTypes := #[22, 3, 3] }, type := 3, pos := "outright.go:109", after := #[{ on := 19, ground := .data }, { on := 24, ground := .data }, { on := 30, ground := .data }, { on := 18, ground := .chain }, { on := 18, ground := .guard }], guard := some (18, false) }) rfl (fun K hK => ?_) AllReadyH.nil
      go_simp
      refine (LV.out _ hS0).mono ?_
      rintro e v1 ⟨rfl, kb⟩
      go_wp2_with fail
      refine hK.out _ _ (hS0.trans kb) (fun hS1 => ?_)
      clear hK K
      try simp only [Act.put, List.setIfInBounds_toArray, List.set_cons_zero, List.set_cons_succ]
      refine wpAnyH_take (i := 33) (oi := { dst := some 78, op := .binOp .gtr 3 (.tmp 76) (.tmp 77) 3, type := 4, pos := "outright.go:109", after := #[{ on := 31, ground := .data }, { on := 32, ground := .data }, { on := 18, ground := .guard }], guard := some (18, false) }) (v := .bool false) rfl (by kernel_rfl) (by kernel_rfl) (by kernel_rfl) (fun _ _ _ h => h) (Or.inl ⟨by rfl, by intro w hSw; clear hSw; go_simp⟩) hS1 ?_
      try simp only [Act.put, List.setIfInBounds_toArray, List.set_cons_zero, List.set_cons_succ]
      refine wpAnyH_take (i := 34) (oi := { dst := some 79, op := .pick (.tmp 63) (.const (Value.bool true)) (.tmp 78), type := 4, pos := "outright.go:109", after := #[{ on := 18, ground := .data }, { on := 33, ground := .data }], guard := none }) (v := .bool false) rfl (by kernel_rfl) (by kernel_rfl) (by kernel_rfl) (fun _ _ _ h => h) (Or.inl ⟨by rfl, by intro w hSw; clear hSw; go_simp⟩) hS1 ?_
      try simp only [Act.put, List.setIfInBounds_toArray, List.set_cons_zero, List.set_cons_succ]
      refine wpAnyH_done (by kernel_rfl) ?_ _
      have KR := Lib.hid (show Bel w v1 from K9.out.trans hS1)
      have RR := Lib.hid (R2.out.bel hS1)
      go_wp2_with fail
      go_roundw
      case rel => exact ⟨k + 1, N + 1, g2, some ⟨b2, o2, none⟩, Q2, rfl, by go_num, by omega, rfl, by omega, RR, Lib.hid ⟨HGD2.out.1, HWD2.out⟩, KR⟩
      case measure => simp [intOf]; omega
    · obtain rfl : k = n := by omega
      have HQ := Lib.hid hq.out
      have HOK := Lib.hid hok.out
      have K2 := Lib.hid hh.out
      have RP := Lib.hid (ripe AN N cN Q h u wr hq.out (by have := HNN.out; omega) hok.out.2)
      unfold RipeR at RP
      clear hq hok hh
      by_cases hb : 1 ≤ h ∧ h ≤ 4294967296 ∧ 1 ≤ u ∧ u ≤ 1048576
      case neg =>
        rw [(rip_ways Q h u).2.1 (chk_ok.2 HOK.out.1) hb] at RP
        go_wp2_with fail
        refine RP.out.mono ?_
        rintro e w3 ⟨A1, n1, g1, A2, n2, g2, rfl, hv, kb⟩
        have K3 := Lib.hid (K2.out.trans kb)
        clear hv kb RP
        by_cases a1 : h < 1
        · clear hb
          go_wp2_with fail
          go_ret
          exact ⟨rfl, K3.out⟩
        by_cases a2 : 4294967296 < h
        · clear hb
          go_wp2_with fail
          go_ret
          exact ⟨rfl, K3.out⟩
        by_cases a3 : u < 1
        · clear hb
          go_wp2_with fail
          go_ret
          exact ⟨rfl, K3.out⟩
        by_cases a4 : 1048576 < u
        · clear hb
          go_wp2_with fail
          go_ret
          exact ⟨rfl, K3.out⟩
        exact absurd ⟨by omega, by omega, by omega, by omega⟩ hb
      have e0 := (rip_ways Q h u).2.2 (chk_ok.2 HOK.out.1) hb
      rw [e0, show ripL Q h u = rip Q (h - u) from if_pos e0, show lftL Q h u = lft Q (h - u) from if_pos e0] at RP
      have HB := Lib.hid hb
      clear hb e0
      go_wp2_with fail
      refine RP.out.mono ?_
      rintro e w3 ⟨A1, n1, g1, A2, n2, g2, rfl, hv, kb⟩
      have HV3 := Lib.hid hv
      have K3 := Lib.hid (K2.out.trans kb)
      have Q3 := Lib.hid (HQ.out.bel kb)
      have HPK := Lib.hid (ok_parts (h - u) HOK.out.2 HOK.out.1)
      have E3 := Lib.hid (rip_lft Q 0 (h - u) HOK.out.1.2.1)
      have W3 := Lib.hid (show Wd (rip Q (h - u)) ∧ Wd (lft Q (h - u)) from ⟨wd_rip _ HOK.out.2, wd_lft _ HOK.out.2⟩)
      have L1 := Lib.hid (show n1 ≤ 40 ∧ n2 ≤ 40 from by have h1 := hv.r1.len; have h2 := hv.r2.len; have := rip_len Q (h - u); have := HQ.out.len; have := HNN.out; omega)
      have LN1 := Lib.hid hv.r1.len
      have LN2 := Lib.hid hv.r2.len
      have HIFF := Lib.hid (fun (i : Nat) (r : E8) (hr : Q[i]? = some r) => (show i < n1 ↔ cr r ≤ h - u from by rw [← LN1.out]; exact rip_iff HOK.out.1.2.1 hr))
      clear hv kb RP K2 HQ
      obtain ⟨la, hla⟩ : ∃ x, rip Q (h - u) = x := ⟨_, rfl⟩
      obtain ⟨lb, hlb⟩ : ∃ x, lft Q (h - u) = x := ⟨_, rfl⟩
      rw [hla, hlb] at HV3 HPK E3 W3
      rw [hla] at LN1
      rw [hlb] at LN2
      clear hla hlb
      have CK1 := Lib.hid (show Calls Try.prog 14 #[.slice A1 n1 g1] w3 fun e w' => e = .returned (.tuple #[.int .i64 0, .int .i64 0]) ∧ Bel w3 w' from by
        have hc := check A1 n1 g1 la w3 HV3.out.r1 (by have := L1.out; omega) W3.out.1
        rwa [chk_zero (chk_ok.2 HPK.out.1)] at hc)
      go_wp2_with fail
      refine CK1.out.mono ?_
      rintro e w4 ⟨rfl, kb⟩
      have K4 := Lib.hid kb
      clear kb CK1
      have CK2 := Lib.hid (show Calls Try.prog 14 #[.slice A2 n2 g2] w4 fun e w' => e = .returned (.tuple #[.int .i64 0, .int .i64 0]) ∧ Bel w4 w' from by
        have hc := check A2 n2 g2 lb w4 (HV3.out.r2.bel K4.out) (by have := L1.out; omega) W3.out.2
        rwa [chk_zero (chk_ok.2 HPK.out.2)] at hc)
      go_wp2_with fail
      refine CK2.out.mono ?_
      rintro e w5 ⟨rfl, kb⟩
      have K5 := Lib.hid (K4.out.trans kb)
      have HV5 := Lib.hid (HV3.out.bel K5.out)
      clear kb CK2 K4 HV3
      have C1 := Lib.hid (copy A1 n1 g1 la w5 HV5.out.r1 (by have := L1.out; omega))
      go_wp2_with fail
      refine C1.out.mono ?_
      rintro e w6 ⟨v6, rfl, ho, kb⟩
      have O6 := Lib.hid ho
      have K6 := Lib.hid kb
      clear ho kb C1
      go_wp2_with (at_builtin; refine Rw.append_g eR (by rfl) _ _ _ 27 rfl underE zero_E rfl (by decide) w5.heap.size _ la rfl O6.out A2 n2 g2 lb rfl (HV5.out.r2.bel K6.out) (by have := LN1.out; have := L1.out; omega) (Below.size K6.out) ?_; intro v7 w7 hown' hgrow)
      have O7 := Lib.hid hown'
      have K7 := Lib.hid (show Bel w5 w7 from Kk.Bel.grown K6.out hgrow (fun k hk => (O6.out.lt k hk).1))
      obtain ⟨A7, c7, hv7, hr7⟩ := O7.out.slice
      subst hv7
      clear hown' hgrow
      have Q7 := Lib.hid (Q3.out.bel (K5.out.trans K7.out))
      have S7 := Lib.hid (same_entries A7 AN (la ++ lb).length c7 N cN (la ++ lb) Q w7 hr7 Q7.out (by rw [List.length_append]; have := LN1.out; have := LN2.out; have := L1.out; omega) (by have := HNN.out; omega))
      rw [decide_eq_true E3.out] at S7
      clear hr7 O7 O6 K6
      go_wp2_with fail
      refine S7.out.mono ?_
      rintro e w8 ⟨rfl, kb⟩
      have Q8 := Lib.hid (Q7.out.bel kb)
      have K8 := Lib.hid (K3.out.trans (K5.out.trans (K7.out.trans kb)))
      clear kb S7 K3 K5 K7 Q7 Q3 E3 HV5 W3 HPK
      go_wp2_with fail
      go_loopw [8, 21] (fun s8 s21 wr => ∃ i : Nat, s8 = .bool false ∧ s21 = .int .i64 i ∧ i ≤ N ∧ Hid (Bel w8 wr)) (fun _ s21 _ => N - (intOf s21).toNat)
      case atStart => exact ⟨0, rfl, rfl, Nat.zero_le _, Lib.hid (Bel.refl _)⟩
      case round =>
        obtain ⟨i, rfl, rfl, hiN, hh⟩ := hrel
        by_cases hlt : i < N
        · have hlt3 : (i : Int) < N := by omega
          have hlt0 : (0 : Int) ≤ i := by omega
          obtain ⟨⟨r1, r2, r3, r4, r5, r6, r7, r8⟩, hr⟩ := Q8.out.get hlt
          obtain ⟨b, o, rfl, hb, hrow⟩ := (Q8.out.bel hh.out).at hlt hr
          have hrow : wr.rangeAt b (o + i * 8) [.int .i64 r1, .int .i64 r2, .int .i64 r3, .int .i64 r4, .int .i64 r5, .int .i64 r6, .int .u64 r7, .int .u64 r8] := hrow
          have HIF := Lib.hid (show i < n1 ↔ r6 ≤ h - u from HIFF.out i _ hr)
          have HBR := Lib.hid (show 1 ≤ r6 ∧ r6 ≤ 4294967296 from may_cr (srt_le Q 0 HOK.out.1.2.1 _ (List.mem_of_getElem? hr)).1)
          have hwr : IntKind.i64.wrap (h - r6) = h - r6 := IntWalk.i64_in _ (by have := HBR.out; have := HB.out; omega)
          have c5 := (rng8 hrow).2.2.2.2.2.1
          clear hr hrow hb
          by_cases hq : i < n1
          · have hq3 : (i : Int) < n1 := by omega
            have hq4 : u ≤ h - r6 := by have := HIF.out.1 hq; omega
            go_wp2_with fail
            go_roundw
            case rel => exact ⟨i + 1, rfl, by go_num, by omega, hh⟩
            case measure => simp [intOf]; omega
          · have hq3 : ¬ (i : Int) < n1 := by omega
            have hq4 : ¬ u ≤ h - r6 := fun hx => hq (HIF.out.2 (by omega))
            go_wp2_with fail
            go_roundw
            case rel => exact ⟨i + 1, rfl, by go_num, by omega, hh⟩
            case measure => simp [intOf]; omega
        · obtain rfl : i = N := by omega
          go_wp2_with fail
          go_ret
          exact ⟨rfl, K8.out.trans hh.out⟩
theorem ripensLawW (A : Option Addr) (n c : Nat) (mo h u : Int) (w : World) (hn : n ≤ 9223372036854775807) (hi : Ents w A n c) (a0 : -9223372036854775808 ≤ mo) (a1 : mo ≤ 9223372036854775807) (b0 : -9223372036854775808 ≤ h) (b1 : h ≤ 9223372036854775807) (c0 : -9223372036854775808 ≤ u) (c1 : u ≤ 9223372036854775807) :
    Calls Try.prog 7 #[.slice A n c, .int .i64 mo, .int .i64 h, .int .i64 u] w fun e w' => e = .returned (.bool true) ∧ Bel w w' := by
  obtain ⟨l, h1, h2⟩ := ents_rs hi
  exact ripensLaw A n c l mo h u w h1 h2
end Qu
end Go.Proofs.Ytdpompponngmdaa
